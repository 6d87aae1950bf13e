/-
  Joined out of Firsts, ReachM, RefReach, SReach, EwWalk, in their order: a claim bears at most so many files.
-/
import Derived.Test.YtafbnmiipfkohaaGreatDoorLateF
/-
  The contracts of firsts, anywhere, nowhere; what a look for nothing meets.
-/
namespace Go.Proofs.YtafbnmiipfkohaaGreatDoor
open Go.ChangeShapes Go.WideShapes Go.ChangeAt Go.RowKit Go.Deep
open Terms

set_option maxRecDepth 20000 in
/-- what is met inside is reached inside. -/
theorem LOk.way {n : Nat} {ins : Nat → Bool} {nx : Nat → List Nat} {bs : List Nat} {L : Met} (h : LOk n ins nx bs L) : ∀ i, i < L.length → ∃ f ∈ bs, Way nx f (L.getD i (0, 0)).1 := by
  intro i
  induction i using Nat.strongRecOn with
  | _ i ih =>
    intro hi
    rcases h.src i hi with ⟨_, hb⟩ | ⟨j, hj, _, hm⟩
    · exact ⟨_, hb, .stay⟩
    · obtain ⟨f, hf, hw⟩ := ih j hj (by omega)
      exact ⟨f, hf, hw.step hm⟩
set_option maxRecDepth 20000 in
theorem look_reach {n : Nat} {nx : Nat → List Nat} {bs : List Nat} {L : Met} (h : LOk n (fun _ => true) nx bs L) (ht : Through (fun _ => true) (fun _ => false) nx bs L L.length) (x : Nat) : x ∈ keys L ↔ ∃ f ∈ bs, Way nx f x := by
  obtain ⟨h1, h2, _⟩ := ht.all h
  constructor
  · intro hx
    obtain ⟨i, hi, rfl⟩ := key_get hx
    exact h.way i hi
  · rintro ⟨f, hf, hw⟩
    exact Way.closed (S := fun y => y ∈ keys L) (fun y hy k hk => h2 y hy k hk rfl) (h1 f hf rfl) hw

set_option maxRecDepth 20000 in
theorem anywhere_fn (w0 : World) (s n : Nat) : FnB w0 s n (.func (.func 32) #[] #[]) (fun _ => true) := by
  refine ⟨_, _, rfl, fun args w => by simp [go_sem], fun w' _ p _ => ?_⟩
  show Calls Tryz.prog 32 #[.int .i64 (p : Int)] w' _
  go_enter Tryz.func32, Tryz.ntmps32
  go_wp2
  go_ret
  exact ⟨rfl, Below.refl _ _⟩
set_option maxRecDepth 20000 in
theorem nowhere_fn (w0 : World) (s n : Nat) : FnB w0 s n (.func (.func 33) #[] #[]) (fun _ => false) := by
  refine ⟨_, _, rfl, fun args w => by simp [go_sem], fun w' _ p _ => ?_⟩
  show Calls Tryz.prog 33 #[.int .i64 (p : Int)] w' _
  go_enter Tryz.func33, Tryz.ntmps33
  go_wp2
  go_ret
  exact ⟨rfl, Below.refl _ _⟩

set_option maxRecDepth 20000 in
theorem natsV_of_row {w : World} {B n : Nat} (h : w.rowIs B 3 n (fun j => .int .i64 (j : Int))) : NatsV w (.slice (some ⟨B, 0, none⟩) (List.range n).length n) (List.range n) :=
  ⟨some ⟨B, 0, none⟩, n, rfl, fun _ => ⟨B, 0, rfl, h.lt, fun i hi => by
    have hi' : i < n := by simpa using hi
    rw [Nat.zero_add, h.cell hi']
    simp [List.getD_eq_getElem?_getD, hi']⟩⟩

set_option maxHeartbeats 1600000 in
set_option maxRecDepth 20000 in
/-- THE CONTRACT OF firsts. -/
theorem firsts_any (so no bo : Option Addr) (sn sc nn nc bn bc gi : Nat) (gm : Int) (w : World) (hgi : gi ≤ 20000) :
    Calls Tryz.prog 31 #[.agg #[.slice so sn sc, .int .i64 (gi : Int), .slice no nn nc, .slice bo bn bc, .int .i64 gm]] w fun e w' => ∃ vo vc, e = .returned (.slice vo (List.range gi).length vc) ∧ Below w.heap.size w w' ∧ NatsV w' (.slice vo (List.range gi).length vc) (List.range gi) := by
  have hmk := run_make_row' (P := Tryz.prog) 40 3 (.int .i64 0) 8 Tryz.underlying40 infoInt rfl .i64 .i64 gi (by omega) (by omega)
  obtain ⟨W0, hW0⟩ : ∃ W0, W0 = w.alloc (.cells #[.slice so sn sc, .int .i64 (gi : Int), .slice no nn nc, .slice bo bn bc, .int .i64 gm] 53) := ⟨_, rfl⟩
  have hrow0 := World.rowIs_made W0 (.int .i64 0) gi 3
  have hs0 : W0.heap.size = w.heap.size + 1 := by rw [hW0]; simp
  have hb0 : Below w.heap.size w W0 := by rw [hW0]; exact (Below.refl _ _).alloc (Nat.le_refl _) _
  rw [hs0] at hrow0
  have HR0 : Hid ((W0.alloc (.cells (madeCells #[.int .i64 0] gi) 3)).rowIs (w.heap.size + 1) 3 gi (fun j => .int .i64 (if j < 0 then (j : Int) else 0))) := hrow0.congr fun j _ => by simp
  have HB0 : Hid (Below w.heap.size w (W0.alloc (.cells (madeCells #[.int .i64 0] gi) 3))) := hb0.alloc (by omega) _
  clear hs0 hb0 hrow0
  have hlen : (List.range gi).length = gi := List.length_range
  have HFin : Hid (∀ w1 : World, w1.rowIs (w.heap.size + 1) 3 gi (fun j => .int .i64 (j : Int)) → NatsV w1 (.slice (some ⟨w.heap.size + 1, 0, none⟩) gi gi) (List.range gi)) := fun w1 h => by
    have := natsV_of_row h
    rwa [hlen] at this
  rw [hlen]
  clear hlen
  go_enter Tryz.func31, Tryz.ntmps31
  go_wp2_with fail
  rw [← hW0]
  clear hW0 hmk
  go_loopw [10] (fun i wr => ∃ k : Nat, k ≤ gi ∧ i = .int .i64 k ∧ Hid (wr.rowIs (w.heap.size + 1) 3 gi (fun j => .int .i64 (if j < k then (j : Int) else 0))) ∧ Hid (Below w.heap.size w wr)) (fun i _ => gi - (intOf i).toNat)
  case atStart => exact ⟨0, Nat.zero_le _, rfl, HR0.out, HB0.out⟩
  case round =>
    obtain ⟨k, hk, rfl, HR, HB⟩ := hrel
    by_cases hlt : k < gi
    · have hce := HR.out.cell hlt
      have hfz := HR.out.frozen k
      have HN : Hid ((wr.setCell ⟨w.heap.size + 1, k, none⟩ (.int .i64 (k : Int))).rowIs (w.heap.size + 1) 3 gi (fun j => .int .i64 (if j < k + 1 then (j : Int) else 0))) := (HR.out.set k (.int .i64 (k : Int))).congr fun j _ => by
        by_cases hj : j = k
        · subst hj; simp
        · rw [if_neg hj]
          by_cases hjk : j < k
          · rw [if_pos hjk, if_pos (by omega)]
          · rw [if_neg hjk, if_neg (by omega)]
      have HBn : Hid (Below w.heap.size w (wr.setCell ⟨w.heap.size + 1, k, none⟩ (.int .i64 (k : Int)))) := HB.out.setCell (by show w.heap.size ≤ w.heap.size + 1; omega) _
      generalize (if k < k then (k : Int) else 0) = old at *
      clear HR
      go_wp2_with fail
      go_roundw
      case rel => exact ⟨k + 1, hlt, by go_num, HN, HBn⟩
      case measure => simp [intOf]; omega
    · obtain rfl : k = gi := by omega
      have HI : Hid (NatsV wr (.slice (some ⟨w.heap.size + 1, 0, none⟩) k k) (List.range k)) := HFin.out wr (HR.out.congr fun j hj => by rw [if_pos hj])
      clear HR
      go_wp2_with fail
      go_ret
      exact ⟨_, _, rfl, HB.out, HI.out⟩
end Go.Proofs.YtafbnmiipfkohaaGreatDoor

/-
  Plain mathematics of the document's own way to what is reached: round by round.
-/
namespace Go.Proofs.YtafbnmiipfkohaaGreatDoor
open Terms

def upd (st : Nat → Nat) (i v : Nat) : Nat → Nat := fun j => if j = i then v else st j
set_option maxRecDepth 20000 in
theorem upd_same (st : Nat → Nat) (i v : Nat) : upd st i v i = v := if_pos rfl
set_option maxRecDepth 20000 in
theorem upd_other {st : Nat → Nat} {i v j : Nat} (h : j ≠ i) : upd st i v j = st j := if_neg h
/-- those that are not gone through yet. -/
def cntN (st : Nat → Nat) (n : Nat) : Nat := ((List.range n).filter fun j => decide (st j ≠ 2)).length
set_option maxRecDepth 20000 in
theorem cntN_zero (st : Nat → Nat) : cntN st 0 = 0 := rfl
set_option maxRecDepth 20000 in
theorem cntN_succ (st : Nat → Nat) (n : Nat) : cntN st (n + 1) = cntN st n + if st n = 2 then 0 else 1 := by
  unfold cntN
  rw [List.range_succ, List.filter_append, List.length_append]
  by_cases h : st n = 2 <;> simp [h]
set_option maxRecDepth 20000 in
theorem cntN_congr {st st' : Nat → Nat} : ∀ {n : Nat}, (∀ j, j < n → (st j = 2 ↔ st' j = 2)) → cntN st n = cntN st' n
  | 0, _ => rfl
  | n + 1, h => by
    rw [cntN_succ, cntN_succ, cntN_congr (n := n) (fun j hj => h j (by omega))]
    have := h n (by omega)
    by_cases h2 : st n = 2
    · rw [if_pos h2, if_pos (this.1 h2)]
    · rw [if_neg h2, if_neg (fun x => h2 (this.2 x))]
set_option maxRecDepth 20000 in
theorem cntN_two {st : Nat → Nat} {i : Nat} (hi : st i ≠ 2) : ∀ {n : Nat}, i < n → cntN (upd st i 2) n < cntN st n
  | 0, h => by omega
  | n + 1, h => by
    rw [cntN_succ, cntN_succ]
    by_cases hin : i = n
    · subst hin
      rw [upd_same, if_pos rfl, if_neg hi, cntN_congr (st := upd st i 2) (st' := st) (fun j hj => by rw [upd_other (by omega)])]
      omega
    · have := cntN_two hi (n := n) (by omega)
      rw [upd_other (show n ≠ i by omega)]
      omega
set_option maxRecDepth 20000 in
theorem cntN_one {st : Nat → Nat} {i n : Nat} (hi : st i ≠ 2) : cntN (upd st i 1) n = cntN st n := cntN_congr fun j _ => by
  by_cases hj : j = i
  · subst hj; rw [upd_same]; omega
  · rw [upd_other hj]

/-- what is marked is reached, and where one went through leads to marked ones. -/
structure RInv (n : Nat) (nx : Nat → List Nat) (fr : List Nat) (st : Nat → Nat) : Prop where
  vals : ∀ i, st i ≤ 2
  fst : ∀ f ∈ fr, 0 < st f
  src : ∀ i, 0 < st i → ∃ f ∈ fr, Way nx f i
  next : ∀ i, i < n → st i = 2 → ∀ k ∈ nx i, 0 < st k
/-- the same, while one goes through the next ones of a place. -/
structure RAt (n : Nat) (nx : Nat → List Nat) (fr : List Nat) (st : Nat → Nat) (c q : Nat) : Prop where
  vals : ∀ i, st i ≤ 2
  fst : ∀ f ∈ fr, 0 < st f
  src : ∀ i, 0 < st i → ∃ f ∈ fr, Way nx f i
  next : ∀ i, i < n → i ≠ c → st i = 2 → ∀ k ∈ nx i, 0 < st k
  two : st c = 2
  here : ∀ j, j < q → 0 < st ((nx c).getD j 0)
set_option maxRecDepth 20000 in
theorem RInv.mark {n : Nat} {nx : Nat → List Nat} {fr : List Nat} {st : Nat → Nat} {c : Nat} (h : RInv n nx fr st) (hc : st c = 1) : RAt n nx fr (upd st c 2) c 0 := by
  have hp : ∀ i, 0 < st i → 0 < upd st c 2 i := fun i hi => by
    by_cases h1 : i = c
    · subst h1; rw [upd_same]; omega
    · rw [upd_other h1]; exact hi
  refine ⟨fun i => ?_, fun f hf => hp f (h.fst f hf), fun i hi => ?_, fun i hi hne h2 k hk => ?_, upd_same _ _ _, fun j hj => by omega⟩
  · by_cases h1 : i = c
    · subst h1; rw [upd_same]; omega
    · rw [upd_other h1]; exact h.vals i
  · by_cases h1 : i = c
    · subst h1; exact h.src i (by omega)
    · rw [upd_other h1] at hi; exact h.src i hi
  · rw [upd_other hne] at h2
    exact hp k (h.next i hi h2 k hk)
set_option maxRecDepth 20000 in
theorem RAt.pass {n : Nat} {nx : Nat → List Nat} {fr : List Nat} {st : Nat → Nat} {c q : Nat} (h : RAt n nx fr st c q) (hq : 0 < st ((nx c).getD q 0)) : RAt n nx fr st c (q + 1) :=
  ⟨h.vals, h.fst, h.src, h.next, h.two, fun j hj => by
    by_cases h1 : j < q
    · exact h.here j h1
    · obtain rfl : j = q := by omega
      exact hq⟩
set_option maxRecDepth 20000 in
theorem RAt.new {n : Nat} {nx : Nat → List Nat} {fr : List Nat} {st : Nat → Nat} {c q : Nat} (h : RAt n nx fr st c q) (hql : q < (nx c).length) (hq : st ((nx c).getD q 0) = 0) : RAt n nx fr (upd st ((nx c).getD q 0) 1) c (q + 1) := by
  have hmem : (nx c).getD q 0 ∈ nx c := by rw [List.getD_eq_getElem?_getD, List.getElem?_eq_getElem hql]; exact List.getElem_mem _
  obtain ⟨y, hy⟩ : ∃ y, (nx c).getD q 0 = y := ⟨_, rfl⟩
  rw [hy] at hq hmem ⊢
  have hp : ∀ i, 0 < st i → 0 < upd st y 1 i := fun i hi => by
    by_cases h1 : i = y
    · subst h1; omega
    · rw [upd_other h1]; exact hi
  have hyc : y ≠ c := by rintro rfl; have := h.two; omega
  refine ⟨fun i => ?_, fun f hf => hp f (h.fst f hf), fun i hi => ?_, fun i hi hne h2 k hk => ?_, ?_, fun j hj => ?_⟩
  · by_cases h1 : i = y
    · subst h1; rw [upd_same]; omega
    · rw [upd_other h1]; exact h.vals i
  · by_cases h1 : i = y
    · subst h1
      obtain ⟨f, hf, hw⟩ := h.src c (by rw [h.two]; omega)
      exact ⟨f, hf, hw.step hmem⟩
    · rw [upd_other h1] at hi; exact h.src i hi
  · by_cases h1 : i = y
    · subst h1; rw [upd_same] at h2; omega
    · rw [upd_other h1] at h2; exact hp k (h.next i hi hne h2 k hk)
  · rw [upd_other hyc.symm]; exact h.two
  · by_cases h1 : j < q
    · exact hp _ (h.here j h1)
    · obtain rfl : j = q := by omega
      rw [hy, upd_same]; omega
set_option maxRecDepth 20000 in
theorem RAt.done {n : Nat} {nx : Nat → List Nat} {fr : List Nat} {st : Nat → Nat} {c : Nat} (h : RAt n nx fr st c (nx c).length) : RInv n nx fr st := by
  refine ⟨h.vals, h.fst, h.src, fun i hi h2 k hk => ?_⟩
  by_cases h1 : i = c
  · subst h1
    obtain ⟨j, hj, rfl⟩ := List.getElem_of_mem hk
    have := h.here j hj
    rwa [List.getD_eq_getElem?_getD, List.getElem?_eq_getElem hj] at this
  · exact h.next i hi h1 h2 k hk
set_option maxRecDepth 20000 in
/-- nothing new: all that is reached is marked. -/
theorem RInv.all {n : Nat} {nx : Nat → List Nat} {fr : List Nat} {st : Nat → Nat} (h : RInv n nx fr st) (hn : ∀ i, i < n → ∀ k ∈ nx i, k < n) (hf : ∀ f ∈ fr, f < n) (h1 : ∀ j, j < n → st j ≠ 1) (i : Nat) : 0 < st i ↔ ∃ f ∈ fr, Way nx f i := by
  refine ⟨h.src i, fun ⟨f, hf', hw⟩ => ?_⟩
  have : i < n ∧ 0 < st i := by
    refine Way.closed (S := fun i => i < n ∧ 0 < st i) (fun j ⟨hj, hs⟩ k hk => ⟨hn j hj k hk, ?_⟩) ⟨hf f hf', h.fst f hf'⟩ hw
    have h3 := h.vals j
    have h4 := h1 j hj
    exact h.next j hj (by omega) k hk
  exact this.2
set_option maxRecDepth 20000 in
theorem RInv.start {n : Nat} {nx : Nat → List Nat} {fr : List Nat} : RInv n nx fr (fun j => if j ∈ fr then 1 else 0) := by
  refine ⟨fun i => by split <;> omega, fun f hf => by simp [hf], fun i hi => ?_, fun i _ h2 => by split at h2 <;> omega⟩
  by_cases h : i ∈ fr
  · exact ⟨i, h, .stay⟩
  · simp [h] at hi
end Go.Proofs.YtafbnmiipfkohaaGreatDoor

/-
  The contract of the document's own reachedFrom.
-/
namespace Go.Proofs.YtafbnmiipfkohaaGreatDoor
open Go.ChangeShapes Go.WideShapes Go.ChangeAt Go.RowKit Go.Deep
open Terms

open Classical in
/-- so many of a row are not gone through yet. -/
noncomputable def cntW (B n : Nat) (w : World) : Nat := ((List.range n).filter fun j => decide (w.cell? ⟨B, j, none⟩ ≠ some (.int .i64 2))).length
set_option maxRecDepth 20000 in
theorem cntW_row {w : World} {B n : Nat} {st : Nat → Nat} (h : w.rowIs B 3 n (fun j => .int .i64 (st j : Int))) : cntW B n w = cntN st n := by
  unfold cntW cntN
  congr 1
  refine List.filter_congr fun j hj => ?_
  rw [h.cell (List.mem_range.1 hj)]
  by_cases h2 : st j = 2
  · simp [h2]
  · have : ¬ ((st j : Int) = 2) := by omega
    simp [h2, this]
open Classical in
/-- what is reached from some places. -/
noncomputable def reachB (nx : Nat → List Nat) (fr : List Nat) (n : Nat) : List Bool := (List.range n).map fun j => decide (∃ f ∈ fr, Way nx f j)
set_option maxRecDepth 20000 in
theorem row_upd {w : World} {B n : Nat} {st : Nat → Nat} {v : Nat} (h : w.rowIs B 3 n (fun j => .int .i64 (st j : Int))) (i : Nat) : (w.setCell ⟨B, i, none⟩ (.int .i64 (v : Int))).rowIs B 3 n (fun j => .int .i64 (upd st i v j : Int)) :=
  (h.set i (.int .i64 (v : Int))).congr fun j _ => by
    unfold upd
    by_cases hj : j = i
    · subst hj; simp
    · simp [hj]

/-- behind a pass: the marks, and whether there is something new. -/
def OutInv (n : Nat) (nx : Nat → List Nat) (fr : List Nat) (B : Nat) (wr : World) (ag : Bool) : Prop := ∃ st, RInv n nx fr st ∧ wr.rowIs B 3 n (fun j => .int .i64 (st j : Int)) ∧ (ag = false → ∀ j, j < n → st j ≠ 1)
/-- in a pass. -/
def PassInv (n : Nat) (nx : Nat → List Nat) (fr : List Nat) (C0 B : Nat) (wr : World) (c : Nat) (ag : Bool) : Prop := ∃ st, RInv n nx fr st ∧ wr.rowIs B 3 n (fun j => .int .i64 (st j : Int)) ∧ (ag = false → ∀ j, j < c → st j ≠ 1) ∧ cntN st n ≤ C0 ∧ (ag = true → cntN st n < C0)
/-- at a place. -/
def AtInv (n : Nat) (nx : Nat → List Nat) (fr : List Nat) (C0 B : Nat) (wr : World) (c q : Nat) : Prop := ∃ st, RAt n nx fr st c q ∧ wr.rowIs B 3 n (fun j => .int .i64 (st j : Int)) ∧ cntN st n < C0

end Go.Proofs.YtafbnmiipfkohaaGreatDoor

/-
  The contract of scc.Reached.
-/
namespace Go.Proofs.YtafbnmiipfkohaaGreatDoor
open Go.ChangeShapes Go.WideShapes Go.ChangeAt Go.RowKit Go.Deep Go.Maps
open Terms

/-- which spots are reached. -/
noncomputable def reachL (g : Gr) : List Bool := reachB (nxt g) (List.range g.init.toNat) g.spots.length
/-- what the calls ask of sizes. -/
structure GrLe (g : Gr) : Prop where
  spots : g.spots.length ≤ 140737488355328
  next : g.next.length ≤ 140737488355328
  sets : g.sets.length ≤ 140737488355328
  rows : ∀ i, i < g.next.length → (g.next.getD i []).length ≤ 140737488355328
set_option maxRecDepth 20000 in
open Classical in
theorem reachB_at {nx : Nat → List Nat} {fr : List Nat} {n j : Nat} (hj : j < n) : (reachB nx fr n).getD j false = decide (∃ f ∈ fr, Way nx f j) := by
  simp [reachB, List.getD_eq_getElem?_getD, hj]
set_option maxRecDepth 20000 in
theorem reachB_length (nx : Nat → List Nat) (fr : List Nat) (n : Nat) : (reachB nx fr n).length = n := by simp [reachB]

set_option maxHeartbeats 1600000 in
set_option maxRecDepth 20000 in
theorem sreached_bad (so no bo : Option Addr) (sc nc bc : Nat) (g : Gr) (w : World) (hz : GrLe g) (hV : GraphV w (.slice so g.spots.length sc) (.slice no g.next.length nc) (.slice bo g.sets.length bc) g) (hc : ¬ gcode g = 0) :
    Calls Tryz.prog 15 #[.agg #[.slice so g.spots.length sc, .int .i64 g.init, .slice no g.next.length nc, .slice bo g.sets.length bc, .int .i64 g.many]] w fun e w' => e = .returned (.tuple #[.slice none 0 0, .int .i64 9]) ∧ Below w.heap.size w w' := by
  have hA : ∀ o, Below w.heap.size w (w.alloc o) := fun o => (Below.refl _ _).alloc (Nat.le_refl _) o
  have hch := fun o => scheck_any so no bo sc nc bc g (w.alloc o) hz.spots hz.next hz.sets hz.rows (hV.below (hA o))
  rw [gcode_nine hc] at hch
  clear hV hz hc
  generalize g.spots.length = sn at *
  generalize g.next.length = nn at *
  generalize g.sets.length = bn at *
  generalize g.init = gi at *
  generalize g.many = gm at *
  go_enter Tryz.func15, Tryz.ntmps15
  go_wp2_with (go_at_call 16; refine (hch _).mono ?_; rintro e w1 ⟨rfl, hb1⟩)
  go_ret2
  exact ⟨rfl, (hA _).trans (hb1.mono (hA _).size)⟩

set_option maxHeartbeats 3200000 in
set_option maxRecDepth 20000 in
theorem sreached_ok (so no bo : Option Addr) (sc nc bc : Nat) (g : Gr) (w : World) (hz : GrLe g) (hV : GraphV w (.slice so g.spots.length sc) (.slice no g.next.length nc) (.slice bo g.sets.length bc) g) (hc : gcode g = 0) :
    Calls Tryz.prog 15 #[.agg #[.slice so g.spots.length sc, .int .i64 g.init, .slice no g.next.length nc, .slice bo g.sets.length bc, .int .i64 g.many]] w fun e w' => ∃ vo vc, e = .returned (.tuple #[.slice vo g.spots.length vc, .int .i64 0]) ∧ Below w.heap.size w w' ∧ Hid (BoolsV w' (.slice vo g.spots.length vc) (reachL g)) := by
  have hok := gcode_zero hc
  obtain ⟨W0, hW0⟩ : ∃ W0, W0 = w.alloc (.cells #[.slice so g.spots.length sc, .int .i64 g.init, .slice no g.next.length nc, .slice bo g.sets.length bc, .int .i64 g.many] 53) := ⟨_, rfl⟩
  have hA : Below w.heap.size w W0 := by rw [hW0]; exact (Below.refl _ _).alloc (Nat.le_refl _) _
  have hs0 : w.heap.size < W0.heap.size := by rw [hW0]; simp
  have HD : Hid (∀ w1, Below W0.heap.size W0 w1 → Below w.heap.size w w1 ∧ w1.cell? ⟨w.heap.size, 0, none⟩ = some (.slice so g.spots.length sc) ∧ w1.cell? ⟨w.heap.size, 1, none⟩ = some (.int .i64 g.init) ∧ w1.cell? ⟨w.heap.size, 2, none⟩ = some (.slice no g.next.length nc) ∧ w1.cell? ⟨w.heap.size, 3, none⟩ = some (.slice bo g.sets.length bc) ∧ w1.cell? ⟨w.heap.size, 4, none⟩ = some (.int .i64 g.many)) := fun w1 hb => by
    have c : ∀ j, w1.cell? ⟨w.heap.size, j, none⟩ = W0.cell? ⟨w.heap.size, j, none⟩ := fun j => hb.cell (p := ⟨w.heap.size, j, none⟩) hs0
    refine ⟨hA.trans (hb.mono hA.size), (c _).trans ?_, (c _).trans ?_, (c _).trans ?_, (c _).trans ?_, (c _).trans ?_⟩ <;> (rw [hW0]; simp [go_sem])
  have hch := scheck_any so no bo sc nc bc g W0 hz.spots hz.next hz.sets hz.rows (hV.below hA)
  rw [hc] at hch
  obtain ⟨gi, hgi⟩ : ∃ gi : Nat, g.init = gi := ⟨g.init.toNat, by have := hok.head.init0; omega⟩
  have hgn : gi ≤ g.spots.length := by have := hok.head.init1; omega
  have hn := hok.head.n
  have HFi : Hid (∀ w1, Calls Tryz.prog 31 #[.agg #[.slice so g.spots.length sc, .int .i64 (gi : Int), .slice no g.next.length nc, .slice bo g.sets.length bc, .int .i64 g.many]] w1 fun e w' => ∃ vo vc, e = .returned (.slice vo (List.range gi).length vc) ∧ Below w1.heap.size w1 w' ∧ NatsV w' (.slice vo (List.range gi).length vc) (List.range gi)) := fun w1 => firsts_any so no bo _ sc _ nc _ bc gi g.many w1 (by omega)
  have HLo : Hid (∀ w1 vo vc, Below W0.heap.size W0 w1 → NatsV w1 (.slice vo (List.range gi).length vc) (List.range gi) → Calls Tryz.prog 30 #[.agg #[.slice so g.spots.length sc, .int .i64 (gi : Int), .slice no g.next.length nc, .slice bo g.sets.length bc, .int .i64 g.many], .slice vo (List.range gi).length vc, .func (.func 32) #[] #[], .func (.func 33) #[] #[]] w1 fun e w' => ∃ L r, e = .returned (.tuple #[.int .i64 r, .map (some (w1.heap.size + 2))]) ∧ Below w1.heap.size w1 w' ∧ Hid (CameIs w' (w1.heap.size + 2) L ∧ ∀ x, x ∈ keys L ↔ ∃ f ∈ List.range gi, Way (nxt g) f x)) := fun w1 vo vc hb hN => by
    have := lookG_any so no bo vo sc nc bc vc g (List.range gi) 32 33 #[] #[] (fun _ => true) (fun _ => false) w1 hok (fun i hi => hz.rows i (by rw [hok.head.next]; exact hi)) ((hV.below hA).below hb) hN (by simp; omega) (fun x hx => by have := List.mem_range.1 hx; omega) (anywhere_fn _ _ _) (nowhere_fn _ _ _)
    rw [hgi] at this
    refine this.mono fun e w' ⟨L, r, h1, h2, h3⟩ => ⟨L, r, h1, h2, h3.out.1, ?_⟩
    obtain ⟨p1, p2⟩ := h3.out.2
    rcases p2 with ⟨_, p3⟩ | ⟨i, _, _, p4⟩
    · exact look_reach p1 p3
    · simp at p4
  have HRe : Hid (∀ x, x < g.spots.length → ∀ b : Bool, (b = true ↔ ∃ f ∈ List.range gi, Way (nxt g) f x) → (reachL g).getD x false = b) := fun x hx b hb => by
    classical
    unfold reachL
    rw [reachB_at hx, hgi]
    show decide (∃ f ∈ List.range gi, Way (nxt g) f x) = b
    cases b with
    | true => exact decide_eq_true (hb.1 rfl)
    | false => exact decide_eq_false fun h => by simp at hb; exact hb _ (List.mem_range.1 h.choose_spec.1) h.choose_spec.2
  have HRl : Hid ((reachL g).length = g.spots.length) := reachB_length _ _ _
  rw [hgi] at hW0 HD hch ⊢
  have HHas : Hid (∀ x, (∃ f ∈ List.range gi, Way (nxt g) f x) = (∃ f ∈ List.range gi, Way (nxt g) f x)) := fun _ => rfl
  generalize reachL g = RL at *
  generalize Way (nxt g) = WY at *
  obtain ⟨lr, hlr⟩ : ∃ lr, lr = (List.range gi).length := ⟨_, rfl⟩
  rw [← hlr] at HFi HLo
  generalize g.next.length = nn at *
  generalize g.sets.length = bn at *
  generalize g.many = gm at *
  obtain ⟨n, hnn⟩ : ∃ n, n = g.spots.length := ⟨_, rfl⟩
  rw [← hnn] at hW0 HD hch HFi HLo HRe HRl hn hgn ⊢
  clear hV hz hc hok hgi hnn hlr
  have hS : ∀ w1, Below W0.heap.size W0 w1 → w1.cell? ⟨w.heap.size, 0, none⟩ = some (.slice so n sc) ∧ w1.cell? ⟨w.heap.size, 1, none⟩ = some (.int .i64 (gi : Int)) ∧ w1.cell? ⟨w.heap.size, 2, none⟩ = some (.slice no nn nc) ∧ w1.cell? ⟨w.heap.size, 3, none⟩ = some (.slice bo bn bc) ∧ w1.cell? ⟨w.heap.size, 4, none⟩ = some (.int .i64 gm) := fun w1 hb => (HD.out w1 hb).2
  have HW0 : Hid (W0 = w.alloc (.cells #[.slice so n sc, .int .i64 (gi : Int), .slice no nn nc, .slice bo bn bc, .int .i64 gm] 53)) := hW0
  rw [hW0] at hch
  clear hW0
  go_enter Tryz.func15, Tryz.ntmps15
  go_wp2_with (go_at_call 16; refine hch.mono ?_; rintro e w1 ⟨rfl, hb1⟩; rw [← HW0.out] at hb1; obtain ⟨a0, a1, a2, a3, a4⟩ := hS w1 hb1)
  have hfi := HFi.out w1.drew
  go_region_held3 (fun w' => w'.cell? ⟨w.heap.size, 0, none⟩ = some (.slice so n sc) ∧ w'.cell? ⟨w.heap.size, 1, none⟩ = some (.int .i64 (gi : Int)) ∧ w'.cell? ⟨w.heap.size, 2, none⟩ = some (.slice no nn nc) ∧ w'.cell? ⟨w.heap.size, 3, none⟩ = some (.slice bo bn bc) ∧ w'.cell? ⟨w.heap.size, 4, none⟩ = some (.int .i64 gm))
    (exact hS _ (by first | exact hb1.drew | exact hb1 | exact hb12 | exact hb13))
    (first | (go_at_call 31; refine hfi.mono ?_; rintro e w2 ⟨vo, vc, rfl, hb2, hN2⟩; have hb12 := hb1.trans ((undrewB hb2).mono hb1.size); have hlo := HLo.out w2 vo vc hb12 hN2) | (go_at_call 30; refine hlo.mono ?_; rintro e w3 ⟨L, r, rfl, hb3, HC⟩; have hb13 := hb12.trans (hb3.mono hb12.size)))
  obtain ⟨b0, b1, b2, b3, b4⟩ := hS w3 hb13
  have hmk := run_make_row' (P := Tryz.prog) 58 4 (.bool false) 1 Tryz.underlying58 infoBool rfl .i64 .i64 n (by omega) (by omega)
  have hrow0 := World.rowIs_made w3 (.bool false) n 4
  have HR0 : Hid ((w3.alloc (.cells (madeCells #[.bool false] n) 4)).rowIs w3.heap.size 4 n (fun j => .bool (if j < 0 then RL.getD j false else false))) := hrow0.congr fun j _ => by simp
  have HB0 : Hid (Below w3.heap.size w3 (w3.alloc (.cells (madeCells #[.bool false] n) 4))) := (Below.refl _ _).alloc (Nat.le_refl _) _
  have hbw3 := hA.trans (hb13.mono hA.size)
  clear hrow0 hS hfi hlo hN2 HLo HFi hch HD hb12 hb13 hb1 hb2 hb3 hA HW0
  go_wp2_with fail
  go_loopw [27] (fun i wr => ∃ k : Nat, k ≤ n ∧ i = .int .i64 k ∧ Hid (wr.rowIs w3.heap.size 4 n (fun j => .bool (if j < k then RL.getD j false else false))) ∧ Hid (Below w3.heap.size w3 wr)) (fun i _ => n - (intOf i).toNat)
  case atStart => exact ⟨0, Nat.zero_le _, rfl, HR0.out, HB0.out⟩
  case round =>
    obtain ⟨k, hk, rfl, HR, HB⟩ := hrel
    by_cases hlt : k < n
    · have hce := HR.out.cell hlt
      have hfz := HR.out.frozen k
      obtain ⟨D, hown, hcd⟩ := HC.out.1.kept (grown_below HB.out) (by simp)
      have hkk := HC.out.2 k
      have hhas := (hcd k).1
      have hk1 := keyG k (by omega)
      have HRk : Hid (RL.getD k false = decide (k ∈ keys L)) := HRe.out k hlt (decide (k ∈ keys L)) (by rw [← hkk]; simp)
      generalize decide (k ∈ keys L) = bb at *
      have HN : Hid ((wr.setCell ⟨w3.heap.size, k, none⟩ (.bool bb)).rowIs w3.heap.size 4 n (fun j => .bool (if j < k + 1 then RL.getD j false else false))) := (HR.out.set k (.bool bb)).congr fun j _ => by
        by_cases hj : j = k
        · subst hj; rw [if_pos rfl, if_pos (by omega), HRk.out]
        · rw [if_neg hj]
          by_cases hjk : j < k
          · rw [if_pos hjk, if_pos (by omega)]
          · rw [if_neg hjk, if_neg (by omega)]
      have HBn : Hid (Below w3.heap.size w3 (wr.setCell ⟨w3.heap.size, k, none⟩ (.bool bb))) := HB.out.setCell (Nat.le_refl _) _
      generalize (if k < k then RL.getD k false else false) = old at *
      generalize L.length = ql at *
      clear HR hcd hkk
      go_wp2_with (at_lookup; refine wpList_lookup_own_ok_int _ rfl _ _ 85 rfl 3 3 .i64 keyIntG Tryz.underlying85 Tryz.underlying3 (zeroIntG _) (w2.heap.size + 2) _ D rfl hown _ _ rfl hk1 ?_; intro c hat hwc; rw [hhas]; clear hat hwc)
      go_roundw
      case rel => exact ⟨k + 1, hlt, by go_num, HN, HBn⟩
      case measure => simp [intOf]; omega
    · obtain rfl : k = n := by omega
      have HI : Hid (BoolsV wr (.slice (some ⟨w3.heap.size, 0, none⟩) k k) RL) := by
        have h1 : wr.rowIs w3.heap.size 4 RL.length (fun j => .bool (RL.getD j false)) := by rw [HRl.out]; exact HR.out.congr fun j hj => by rw [if_pos hj]
        have := boolsV_of_row h1
        rwa [HRl.out] at this
      clear HR
      go_wp2_with fail
      go_ret2
      exact ⟨_, _, rfl, hbw3.trans (HB.out.mono hbw3.size), HI⟩
end Go.Proofs.YtafbnmiipfkohaaGreatDoor

/-
  The walk of the law ExploreWhole.
-/
namespace Go.Proofs.YtafbnmiipfkohaaGreatDoor
open Go.ChangeShapes Go.WideShapes Go.ChangeAt Go.RowKit Go.Deep Go.Maps
open Terms Tm

set_option maxRecDepth 20000 in
theorem tk_empty : tkcode ⟨[], []⟩ [] [] = 4 := by
  unfold tkcode
  have h1 : pcode ⟨[], []⟩ [] = 0 := by decide
  rw [h1, if_neg (by simp)]
  decide
set_option maxRecDepth 20000 in
/-- a spot list is read. -/
theorem OpsV.spot {w : World} {ao : Option Addr} {n c : Nat} {x : List (Int × Int)} (h : OpsV w (.slice ao n c) x) {i : Nat} (hi : i < x.length) : ∃ b off, ao = some ⟨b, off, none⟩ ∧ b < w.heap.size ∧ w.cell? ⟨b, off + i * 2, none⟩ = some (.int .i64 (x.getD i (0, 0)).1) ∧ w.cell? ⟨b, off + i * 2 + 1, none⟩ = some (.int .i64 (x.getD i (0, 0)).2) := by
  obtain ⟨ao', cap, e, _, h⟩ := h
  injection e with e1 e2 e3
  subst e1
  obtain ⟨b, off, rfl, hlt, hat⟩ := h (by rintro rfl; simp at hi)
  exact ⟨b, off, rfl, hlt, (hat i hi).1, (hat i hi).2⟩
set_option maxRecDepth 20000 in
theorem IntsV.numX {w : World} {ao : Option Addr} {n c : Nat} {x : List Int} (h : IntsV w (.slice ao n c) x) {i : Nat} (hi : i < x.length) : ∃ b off, ao = some ⟨b, off, none⟩ ∧ b < w.heap.size ∧ w.cell? ⟨b, off + i, none⟩ = some (.int .i64 (x.getD i 0)) := by
  obtain ⟨ao', cap, e, h⟩ := h
  injection e with e1 e2 e3
  subst e1
  obtain ⟨b, off, rfl, hlt, hat⟩ := h (by rintro rfl; simp at hi)
  exact ⟨b, off, rfl, hlt, hat i hi⟩

set_option maxHeartbeats 6400000 in
set_option maxRecDepth 20000 in
theorem exploreWhole_walk (c0 c1 c2 c3 c4 c5 c6 : Value) (a b : Vr) (rawv : Value) (rs : List (Int × Int)) (w : World) (hB : 0 < w.heap.size) (hT : TabAt w) (hG : GV a b) (hR : Raws w w.heap.size rawv rs)
    (hmd : ∀ w', Below w.heap.size w w' → Calls Tryz.prog 18 #[.agg #[c0, c1, c2, c3, c4, c5, c6]] w' fun e w2 => ∃ va vr, e = .returned (.agg #[va, vr]) ∧ Below w'.heap.size w' w2 ∧ GModel w2 va vr [a, b]) :
    Calls Tryz.prog 5 #[.agg #[c0, c1, c2, c3, c4, c5, c6], rawv] w fun e w' => e = .returned (.bool true) ∧ Below w.heap.size w w' := by
  have hA1 : Below w.heap.size w (w.alloc (.cells #[c0, c1, c2, c3, c4, c5, c6] 25)) := (Below.refl _ _).alloc (Nat.le_refl _) _
  have htk := taskFn_any c0 c1 c2 c3 c4 c5 c6 a b rawv rs 2 _ hG (by decide) (hR.up hA1) (fun w' h => hmd w' (hA1.trans (h.mono hA1.size)))
  have hspan : 1 ≤ vspan a * vspan b ∧ vspan a * vspan b ≤ 16 := by
    have h1 : 1 ≤ vspan a ∧ vspan a ≤ 4 := by have := hG.a2; have := hG.a3; unfold vspan; omega
    have h2 : 1 ≤ vspan b ∧ vspan b ≤ 4 := by have := hG.b2; have := hG.b3; unfold vspan; omega
    obtain ⟨x1, x2⟩ := h1
    obtain ⟨y1, y2⟩ := h2
    generalize vspan a = x at *
    generalize vspan b = y at *
    rcases (show x = 1 ∨ x = 2 ∨ x = 3 ∨ x = 4 by omega) with rfl | rfl | rfl | rfl <;> omega
  obtain ⟨ra, rn0, rc0, hra⟩ : ∃ a n c, rawv = .slice a n c := by obtain ⟨⟨a, c, h, _⟩, _, _⟩ := hR; exact ⟨_, _, _, h⟩
  subst hra
  have HEx : Hid (∀ (w' : World) (va vr pv fv : Value) (m : Mo) (l : List (Int × Int)) (mm : Nat), Below w.heap.size w w' → KTaskOk m l mm → mm ≤ 2 → m.vars = [a, b] → TaskV w' va vr pv fv m propsL l → Calls Tryz.prog 13 #[.agg #[va, vr, pv, fv]] w' fun e w2 => ∃ K so sc no nc xo xc, e = .returned (.tuple #[.agg #[.slice so K sc, .int .i64 ((begL m propsL l).length : Nat), .slice no K nc, .slice xo K xc, .int .i64 ((aheadL l).length : Nat)], .int .i64 0]) ∧ Below w'.heap.size w' w2 ∧ K ≤ 20000 ∧ Hid (ExDone m propsL l K ∧ GraphV w2 (.slice so K sc) (.slice no K nc) (.slice xo K xc) (exGr m propsL l K))) := fun w' va vr pv fv m l mm h hk hmm hvars hv => by
    refine (explore_any va vr pv fv m propsL l w' (Nat.lt_of_lt_of_le hB h.size) (hT.below h hB) hv).mono fun e w2 hx => ?_
    have hah : (aheadL l).length = mm := by obtain ⟨T, hT⟩ := hk.fo; exact hT.ahead
    rcases hx with ⟨_, K, hD, sv, nv, tv, e1, h2, HG⟩ | ⟨_, hf, _, _⟩ | ⟨h1, _, _⟩
    · have hGr := HG.out.graph
      obtain ⟨so, sc, rfl⟩ := HG.out.1.shape
      obtain ⟨us, n1, _⟩ := HG.out.2.1
      obtain ⟨no, nc, rfl⟩ := owns_slice n1
      obtain ⟨xo, xc, rfl⟩ := owns_slice HG.out.2.2
      rw [hD.1, xpN_len, xpT_len] at e1 hGr
      exact ⟨K, so, sc, no, nc, xo, xc, e1, h2, hD.2.1, hD, hGr⟩
    · refine absurd hf (xp_few (P := (vspan a * vspan b).toNat) hk.code ?_ ?_)
      · rw [hvars]
        show prodTo [a, b] 2 = _
        rw [prod_two]
        omega
      · rw [hah]
        have : 2 ^ mm ≤ 2 ^ 2 := Nat.pow_le_pow_right (by decide) hmm
        have h3 : (vspan a * vspan b).toNat * 2 ^ mm ≤ 16 * 4 := Nat.mul_le_mul (by omega) (by omega)
        omega
    · exact absurd hk.code h1
  have HBg : Hid (∀ (w' : World) (va vr pv fv : Value) (m : Mo) (l : List (Int × Int)) (mm : Nat), Below w.heap.size w w' → KTaskOk m l mm → TaskV w' va vr pv fv m propsL l → Calls Tryz.prog 14 #[.agg #[va, vr, pv, fv]] w' fun e w2 => ∃ bo bc, e = .returned (.tuple #[.slice bo (begL m propsL l).length bc, .int .i64 0]) ∧ Below w'.heap.size w' w2) := fun w' va vr pv fv m l mm h hk hv => (pbegin_any va vr pv fv m propsL l w' (Nat.lt_of_lt_of_le hB h.size) (hT.below h hB) hv).mono fun e w2 ⟨so, sc, h1, h2, h3⟩ => by
    rw [begR_ok hk.code, hk.code] at h1
    exact ⟨so, sc, h1, h2⟩
  have HBh : Hid (∀ (w' : World) (va vr pv fv : Value) (m : Mo) (l : List (Int × Int)) (mm : Nat) (p : Int × Int), Below w.heap.size w w' → KTaskOk m l mm → spOk m l p → TaskV w' va vr pv fv m propsL l → Calls Tryz.prog 10 #[.agg #[va, vr, pv, fv], .agg #[.int .i64 p.1, .int .i64 p.2]] w' fun e w2 => ∃ bo bc, e = .returned (.tuple #[.slice bo (xpBh m propsL l p).length bc, .int .i64 0]) ∧ Below w'.heap.size w' w2 ∧ Hid (SpV w2 (.slice bo (xpBh m propsL l p).length bc) (xpBh m propsL l p))) := fun w' va vr pv fv m l mm p h hk hs hv => by
    have hI := (spot_I64 hk.code hs).1
    refine (pbehind_any va vr pv fv m propsL l p.1 p.2 hI w' (Nat.lt_of_lt_of_le hB h.size) (hT.below h hB) hv).mono fun e w2 ⟨so, sc, h1, h2, h3⟩ => ?_
    obtain ⟨g1, d, g2, g3⟩ := hs
    have hc0 : bhC m propsL l p.1 p.2 = 0 := by rw [g3, bhC_ok hk.code ⟨by omega, by omega⟩, wcode_yes hk.mo g1]
    rw [bhL_ok hc0] at h1 h3
    rw [hc0] at h1
    exact ⟨so, sc, h1, h2, h3.out.v⟩
  have HRe : Hid (∀ (w' : World) (so no xo : Option Addr) (sc nc xc K : Nat) (m : Mo) (l : List (Int × Int)) (mm : Nat), KTaskOk m l mm → ExDone m propsL l K → GraphV w' (.slice so K sc) (.slice no K nc) (.slice xo K xc) (exGr m propsL l K) → Calls Tryz.prog 15 #[.agg #[.slice so K sc, .int .i64 ((begL m propsL l).length : Nat), .slice no K nc, .slice xo K xc, .int .i64 ((aheadL l).length : Nat)]] w' (fun e w2 => ∃ vo vc, e = .returned (.tuple #[.slice vo K vc, .int .i64 0]) ∧ Below w'.heap.size w' w2 ∧ Hid (∀ w3, Below w2.heap.size w2 w3 → ∀ i, i < K → ∃ b off, vo = some ⟨b, off, none⟩ ∧ w3.cell? ⟨b, off + i, none⟩ = some (.bool true))) ∧ Calls Tryz.prog 16 #[.agg #[.slice so K sc, .int .i64 ((begL m propsL l).length : Nat), .slice no K nc, .slice xo K xc, .int .i64 ((aheadL l).length : Nat)]] w' (fun e w2 => e = .returned (.int .i64 0) ∧ Below w'.heap.size w' w2)) := fun w' so no xo sc nc xc K m l mm hk hD hGr => by
    have hok := exGr_ok hk.code hD
    have hc0 : gcode (exGr m propsL l K) = 0 := gcode_ok hok.head hok.row
    have e1 : (exGr m propsL l K).spots.length = K := hD.1
    have e2 : (exGr m propsL l K).next.length = K := xpN_len K
    have e3 : (exGr m propsL l K).sets.length = K := xpT_len K
    have hm0 := hk.mo
    have h6 := (lcode_zero (tk_zero hk.code).2).2.2.2.2
    have hrows : ∀ i, i < (exGr m propsL l K).next.length → ((exGr m propsL l K).next.getD i []).length ≤ 140737488355328 := fun i hi => by
      rw [e2] at hi
      show ((xpN m propsL l K).getD i []).length ≤ _
      rw [(xpN_row hD hi).1]
      have hin : (xpP m propsL l K).getD i (0, 0) ∈ xpP m propsL l K := by
        have hl : i < (xpP m propsL l K).length := by rw [hD.1]; exact hi
        rw [List.getD_eq_getElem?_getD, List.getElem?_eq_getElem hl]
        exact List.getElem_mem _
      have := behL_len (ps := propsL) (l := l) (c := ((xpP m propsL l K).getD i (0, 0)).2) hm0 (hD.2.2.2 _ hin).1 h6
      show (behL _ _ _ _ _).length ≤ _
      omega
    have hle : GrLe (exGr m propsL l K) := ⟨by rw [e1]; have := hD.2.1; omega, by rw [e2]; have := hD.2.1; omega, by rw [e3]; have := hD.2.1; omega, hrows⟩
    have hGr' : GraphV w' (.slice so (exGr m propsL l K).spots.length sc) (.slice no (exGr m propsL l K).next.length nc) (.slice xo (exGr m propsL l K).sets.length xc) (exGr m propsL l K) := by rw [e1, e2, e3]; exact hGr
    have hr := sreached_ok so no xo sc nc xc (exGr m propsL l K) w' hle hGr' hc0
    have hc := scheck_any so no xo sc nc xc (exGr m propsL l K) w' hle.spots hle.next hle.sets hle.rows hGr'
    rw [e1, e2, e3] at hr hc
    rw [hc0] at hc
    refine ⟨hr.mono fun e w2 ⟨vo, vc, h1, h2, h3⟩ => ⟨vo, vc, h1, h2, fun w3 hb i hi => ?_⟩, hc⟩
    obtain ⟨ao', cap, e4, h4⟩ := h3.out.below hb
    injection e4 with e4 e5 e6
    subst e4
    have hlen : (reachL (exGr m propsL l K)).length = K := by unfold reachL; rw [reachB_length, e1]
    obtain ⟨b, off, rfl, _, hat⟩ := h4 (by intro e0; rw [e0] at hlen; simp at hlen; omega)
    refine ⟨b, off, rfl, ?_⟩
    rw [hat i (by rw [hlen]; exact hi)]
    unfold reachL
    rw [reachB_at (by rw [e1]; exact hi)]
    have : ∃ f ∈ List.range (exGr m propsL l K).init.toNat, Way (nxt (exGr m propsL l K)) f i := exGr_reach hD hi
    simp only [Option.some.injEq, Value.bool.injEq, decide_eq_true_eq]
    exact this
  have HPc : Hid (∀ w', Below w.heap.size w w' → Calls Tryz.prog 17 #[.agg #[.slice none 0 0, .slice none 0 0, .slice none 0 0, .slice none 0 0]] w' fun e w2 => e = .returned (.int .i64 4) ∧ Below w'.heap.size w' w2) := fun w' h => by
    have hN : TaskV w' (.slice none 0 0) (.slice none 0 0) (.slice none 0 0) (.slice none 0 0) ⟨[], []⟩ [] [] := ⟨⟨⟨none, 0, rfl, ⟨Nat.le_refl _, fun _ => ⟨rfl, rfl⟩⟩, fun h => absurd h (by simp)⟩, ⟨none, 0, rfl, ⟨Nat.le_refl _, fun _ => ⟨rfl, rfl⟩⟩, fun h => absurd h (by simp)⟩⟩, ⟨none, 0, rfl, fun h => absurd rfl h⟩, ⟨none, 0, rfl, ⟨by simp, fun _ => ⟨rfl, rfl⟩⟩, fun h => absurd rfl h⟩⟩
    have := pcheck_any _ _ _ _ ⟨[], []⟩ [] [] w' (Nat.lt_of_lt_of_le hB h.size) (hT.below h hB) hN
    rw [tk_empty] at this
    exact this
  clear hmd hR hT hspan hG
  go_enter Tryz.func5, Tryz.ntmps5
  go_upto_region 2 with (first | (go_at_call 6; refine htk.mono ?_; rintro e w1 ⟨ao, ac, ro, rn, rc, pb, fo, fn, fc, m, l, mm, rfl, hb1, HV, HK, hmm, hfn⟩))
  have hbw1 := hA1.trans (hb1.mono hA1.size)
  have hbA : Below w1.heap.size w1 (w1.alloc (.cells #[.slice ao 2 ac, .slice ro rn rc, .slice (some ⟨pb, 0, none⟩) 3 3, .slice fo fn fc] 34)) := (Below.refl _ _).alloc (Nat.le_refl _) _
  have hbw2 := hbw1.trans (hbA.mono hbw1.size)
  have hbx : (w1.alloc (.cells #[.slice ao 2 ac, .slice ro rn rc, .slice (some ⟨pb, 0, none⟩) 3 3, .slice fo fn fc] 34)).heap[w1.heap.size]? = some (tkB (.slice ao 2 ac) (.slice ro rn rc) (.slice (some ⟨pb, 0, none⟩) 3 3) (.slice fo fn fc)) := (MapKept.heap_alloc w1 _).1
  have HV2 : Hid (TaskV (w1.alloc (.cells #[.slice ao 2 ac, .slice ro rn rc, .slice (some ⟨pb, 0, none⟩) 3 3, .slice fo fn fc] 34)) (.slice ao 2 ac) (.slice ro rn rc) (.slice (some ⟨pb, 0, none⟩) 3 3) (.slice fo fn fc) m propsL l) := HV.out.below hbA
  obtain ⟨hok, hvars, hfl, hne⟩ := HK.out
  generalize w1.alloc (.cells #[.slice ao 2 ac, .slice ro rn rc, .slice (some ⟨pb, 0, none⟩) 3 3, .slice fo fn fc] 34) = W2 at *
  generalize w1.heap.size = X at *
  obtain ⟨p0, p1, p2, p3⟩ := tkB_cells hbx
  have hex := HEx.out W2 _ _ _ _ m l mm hbw2 hok hmm hvars HV2.out
  have HOk : Hid (KTaskOk m l mm) := hok
  clear hok hvars hfl hne HK HV htk HEx
  generalize hbn : (begL m propsL l).length = bn at *
  generalize han : (aheadL l).length = an at *
  go_upto_region 3 with (first | (go_at_call 13; refine hex.mono ?_; rintro e w3 ⟨K, so, sc, no, nc, xo, xc, rfl, hb3, hK, HD⟩))
  have hbB : Below w3.heap.size w3 (w3.alloc (.cells #[.slice so K sc, .int .i64 (bn : Nat), .slice no K nc, .slice xo K xc, .int .i64 (an : Nat)] 53)) := (Below.refl _ _).alloc (Nat.le_refl _) _
  have hb24 : Below W2.heap.size W2 (w3.alloc (.cells #[.slice so K sc, .int .i64 (bn : Nat), .slice no K nc, .slice xo K xc, .int .i64 (an : Nat)] 53)) := hb3.trans (hbB.mono hb3.size)
  have hbg : (w3.alloc (.cells #[.slice so K sc, .int .i64 (bn : Nat), .slice no K nc, .slice xo K xc, .int .i64 (an : Nat)] 53)).heap[w3.heap.size]? = some (grB (.slice so K sc) (.slice no K nc) (.slice xo K xc) (bn : Nat) (an : Nat)) := (MapKept.heap_alloc w3 _).1
  have HGv : Hid (GraphV (w3.alloc (.cells #[.slice so K sc, .int .i64 (bn : Nat), .slice no K nc, .slice xo K xc, .int .i64 (an : Nat)] 53)) (.slice so K sc) (.slice no K nc) (.slice xo K xc) (exGr m propsL l K)) := HD.out.2.below hbB
  have HDn : Hid (ExDone m propsL l K) := HD.out.1
  generalize w3.alloc (.cells #[.slice so K sc, .int .i64 (bn : Nat), .slice no K nc, .slice xo K xc, .int .i64 (an : Nat)] 53) = W4 at *
  generalize w3.heap.size = G at *
  have hbw4 := hbw2.trans (hb24.mono hbw2.size)
  have HAll : Hid (∀ wr, Below W4.heap.size W4 wr → (wr.cell? ⟨X, 0, none⟩ = some (.slice ao 2 ac) ∧ wr.cell? ⟨X, 1, none⟩ = some (.slice ro rn rc) ∧ wr.cell? ⟨X, 2, none⟩ = some (.slice (some ⟨pb, 0, none⟩) 3 3) ∧ wr.cell? ⟨X, 3, none⟩ = some (.slice fo fn fc)) ∧ (wr.cell? ⟨G, 0, none⟩ = some (.slice so K sc) ∧ wr.cell? ⟨G, 1, none⟩ = some (.int .i64 (bn : Nat)) ∧ wr.cell? ⟨G, 2, none⟩ = some (.slice no K nc) ∧ wr.cell? ⟨G, 3, none⟩ = some (.slice xo K xc) ∧ wr.cell? ⟨G, 4, none⟩ = some (.int .i64 (an : Nat)))) := fun wr h => by
    have h2 := hb24.trans (h.mono hb24.size)
    exact ⟨tkB_cells ((h2.block X (Array.getElem?_eq_some_iff.1 hbx).1).trans hbx), grB_cells ((h.block G (Array.getElem?_eq_some_iff.1 hbg).1).trans hbg)⟩
  have HBw : Hid (∀ wr, Below W4.heap.size W4 wr → Below w.heap.size w wr) := fun wr h => hbw4.trans (h.mono hbw4.size)
  have HSp : Hid (∀ wr, Below W4.heap.size W4 wr → ∀ i, i < K → ∃ b off, so = some ⟨b, off, none⟩ ∧ wr.cell? ⟨b, off + i * 2, none⟩ = some (.int .i64 ((xpP m propsL l K).getD i (0, 0)).1) ∧ wr.cell? ⟨b, off + i * 2 + 1, none⟩ = some (.int .i64 ((xpP m propsL l K).getD i (0, 0)).2)) := fun wr h i hi => by
    obtain ⟨b, off, e, _, c0, c1⟩ := (HGv.out.spots.below h).spot (i := i) (by show i < (xpP m propsL l K).length; rw [HDn.out.1]; exact hi)
    exact ⟨b, off, e, c0, c1⟩
  have HNx : Hid (∀ wr, Below W4.heap.size W4 wr → ∀ i, i < K → ∃ b off uo un uc, no = some ⟨b, off, none⟩ ∧ wr.cell? ⟨b, off + i, none⟩ = some (.slice uo un uc) ∧ un = (xpBh m propsL l ((xpP m propsL l K).getD i (0, 0))).length ∧ ∀ w5, Below wr.heap.size wr w5 → w5.cell? ⟨b, off + i, none⟩ = some (.slice uo un uc) ∧ ∀ q, q < un → ∃ b2 off2, uo = some ⟨b2, off2, none⟩ ∧ w5.cell? ⟨b2, off2 + q, none⟩ = some (.int .i64 (((xpP m propsL l K).idxOf ((xpBh m propsL l ((xpP m propsL l K).getD i (0, 0))).getD q (0, 0)) : Nat) : Int))) := fun wr h i hi => by
    obtain ⟨b, off, e, hlt, u, hc, hI⟩ := (HGv.out.next.below h).at (i := i) (by show i < (xpN m propsL l K).length; rw [xpN_len]; exact hi)
    obtain ⟨r1, r2⟩ := xpN_row HDn.out hi
    obtain ⟨uo, uc, rfl, _⟩ := id hI
    have hI' : IntsV wr (.slice uo ((xpN m propsL l K).getD i []).length uc) ((xpN m propsL l K).getD i []) := hI
    refine ⟨b, off, uo, _, uc, e, hc, r1, fun w5 h5 => ⟨(h5.cell (p := ⟨b, off + i, none⟩) hlt).trans hc, fun q hq => ?_⟩⟩
    have hq' : q < ((xpN m propsL l K).getD i []).length := hq
    obtain ⟨b2, off2, e2, _, d⟩ := (hI'.below h5).numX hq'
    refine ⟨b2, off2, e2, ?_⟩
    rw [d, (r2 q (by rw [← r1]; exact hq')).1]
  have HBh4 : Hid (∀ wr, Below W4.heap.size W4 wr → ∀ i, i < K → Calls Tryz.prog 10 #[.agg #[.slice ao 2 ac, .slice ro rn rc, .slice (some ⟨pb, 0, none⟩) 3 3, .slice fo fn fc], .agg #[.int .i64 ((xpP m propsL l K).getD i (0, 0)).1, .int .i64 ((xpP m propsL l K).getD i (0, 0)).2]] wr fun e w2 => ∃ bo bc, e = .returned (.tuple #[.slice bo (xpBh m propsL l ((xpP m propsL l K).getD i (0, 0))).length bc, .int .i64 0]) ∧ Below wr.heap.size wr w2 ∧ Hid (SpV w2 (.slice bo (xpBh m propsL l ((xpP m propsL l K).getD i (0, 0))).length bc) (xpBh m propsL l ((xpP m propsL l K).getD i (0, 0))))) := fun wr h i hi => by
    have h2 := hb24.trans (h.mono hb24.size)
    refine HBh.out wr _ _ _ _ m l mm _ (HBw.out wr h) HOk.out (HDn.out.2.2.2 _ ?_) (HV2.out.below h2)
    have hl : i < (xpP m propsL l K).length := by rw [HDn.out.1]; exact hi
    rw [List.getD_eq_getElem?_getD, List.getElem?_eq_getElem hl]
    exact List.getElem_mem _
  have HRe4 : Hid (∀ wr, Below W4.heap.size W4 wr → Calls Tryz.prog 15 #[.agg #[.slice so K sc, .int .i64 (bn : Nat), .slice no K nc, .slice xo K xc, .int .i64 (an : Nat)]] wr (fun e w2 => ∃ vo vc, e = .returned (.tuple #[.slice vo K vc, .int .i64 0]) ∧ Below wr.heap.size wr w2 ∧ Hid (∀ w3, Below w2.heap.size w2 w3 → ∀ i, i < K → ∃ b off, vo = some ⟨b, off, none⟩ ∧ w3.cell? ⟨b, off + i, none⟩ = some (.bool true))) ∧ Calls Tryz.prog 16 #[.agg #[.slice so K sc, .int .i64 (bn : Nat), .slice no K nc, .slice xo K xc, .int .i64 (an : Nat)]] wr (fun e w2 => e = .returned (.int .i64 0) ∧ Below wr.heap.size wr w2)) := fun wr h => by
    have := HRe.out wr so no xo sc nc xc K m l mm HOk.out HDn.out (HGv.out.below h)
    rw [hbn, han] at this
    exact this
  have HNd : Hid (∀ i k, i < K → k < i → ¬ (((xpP m propsL l K).getD i (0, 0)).1 = ((xpP m propsL l K).getD k (0, 0)).1 ∧ ((xpP m propsL l K).getD i (0, 0)).2 = ((xpP m propsL l K).getD k (0, 0)).2)) := fun i k hi hki h => by
    have e : (xpP m propsL l K).getD i (0, 0) = (xpP m propsL l K).getD k (0, 0) := Prod.ext h.1 h.2
    have h1 := xp_idx HDn.out hi
    have h2 := xp_idx HDn.out (i := k) (by omega)
    rw [e, h2] at h1
    omega
  have HIx : Hid (∀ i q, i < K → q < (xpBh m propsL l ((xpP m propsL l K).getD i (0, 0))).length → (xpP m propsL l K).idxOf ((xpBh m propsL l ((xpP m propsL l K).getD i (0, 0))).getD q (0, 0)) < K ∧ (xpP m propsL l K).getD ((xpP m propsL l K).idxOf ((xpBh m propsL l ((xpP m propsL l K).getD i (0, 0))).getD q (0, 0))) (0, 0) = (xpBh m propsL l ((xpP m propsL l K).getD i (0, 0))).getD q (0, 0)) := fun i q hi hq => by
    have hm := ((xpN_row HDn.out hi).2 q hq).2
    have hl := List.idxOf_lt_length_of_mem hm
    refine ⟨by rw [HDn.out.1] at hl; exact hl, ?_⟩
    rw [List.getD_eq_getElem?_getD, List.getElem?_eq_getElem hl]
    exact List.getElem_idxOf hl
  have HBl : Hid (∀ i, i < K → (xpBh m propsL l ((xpP m propsL l K).getD i (0, 0))).length ≤ 262144) := fun i hi => by
    have h6 := (lcode_zero (tk_zero HOk.out.code).2).2.2.2.2
    have hin : (xpP m propsL l K).getD i (0, 0) ∈ xpP m propsL l K := by
      have hl : i < (xpP m propsL l K).length := by rw [HDn.out.1]; exact hi
      rw [List.getD_eq_getElem?_getD, List.getElem?_eq_getElem hl]
      exact List.getElem_mem _
    exact behL_len HOk.out.mo (HDn.out.2.2.2 _ hin).1 h6
  have hbg4 : Calls Tryz.prog 14 #[.agg #[.slice ao 2 ac, .slice ro rn rc, .slice (some ⟨pb, 0, none⟩) 3 3, .slice fo fn fc]] W4 fun e w2 => ∃ bo bc, e = .returned (.tuple #[.slice bo bn bc, .int .i64 0]) ∧ Below W4.heap.size W4 w2 := by
    have := HBg.out W4 _ _ _ _ m l mm hbw4 HOk.out (HV2.out.below hb24)
    rw [hbn] at this
    exact this
  obtain ⟨⟨q0, q1, q2, q3⟩, g0, g1, g2, g3, g4⟩ := HAll.out W4 (Below.refl _ _)
  clear HBh HRe HBg hex HD HGv p0 p1 p2 p3 hbx hbg HV2 hb3 hbB
  have hkz : (K : Int) = (K : Int) := rfl
  go_upto_region 6 with (first | (go_at_call 14; refine hbg4.mono ?_; rintro e w5 ⟨bo, bc, rfl, hb5⟩; obtain ⟨⟨q0, q1, q2, q3⟩, g0, g1, g2, g3, g4⟩ := HAll.out w5 hb5))
  clear hbg4 q0 q1 q2 q3 g0 g1 g2 g3 g4 hkz
  go_wp2_with fail
  go_loopw [10] (fun i wr => ∃ k : Nat, k ≤ K ∧ i = .int .i64 k ∧ Below W4.heap.size W4 wr) (fun i _ => K - (intOf i).toNat)
  case atStart => exact ⟨0, Nat.zero_le _, rfl, hb5⟩
  case round =>
    obtain ⟨k, hkK, rfl, hbr⟩ := hrel
    obtain ⟨⟨q0, q1, q2, q3⟩, g0, g1, g2, g3, g4⟩ := HAll.out wr hbr
    by_cases hlt : k < K
    · have hki : (k : Int) < (K : Int) := by omega
      have HSk : Hid (∀ w6, Below W4.heap.size W4 w6 → ∃ b off, so = some ⟨b, off, none⟩ ∧ w6.cell? ⟨b, off + k * 2, none⟩ = some (.int .i64 ((xpP m propsL l K).getD k (0, 0)).1) ∧ w6.cell? ⟨b, off + k * 2 + 1, none⟩ = some (.int .i64 ((xpP m propsL l K).getD k (0, 0)).2)) := fun w6 h => HSp.out w6 h k hlt
      go_wp2_with fail
      go_loopw [11] (fun i2 wr2 => ∃ j : Nat, j ≤ k ∧ i2 = .int .i64 j ∧ Below W4.heap.size W4 wr2) (fun i2 _ => k - (intOf i2).toNat)
      case atStart => exact ⟨0, Nat.zero_le _, rfl, hbr⟩
      case round =>
        obtain ⟨j, hjk, rfl, hbr2⟩ := hrel
        by_cases hj : j < k
        · obtain ⟨⟨_, _, _, _⟩, g0, _, _, _, _⟩ := HAll.out wr hbr2
          have hji : (j : Int) < (k : Int) := by omega
          have hjK : (j : Int) < (K : Int) := by omega
          have hne := HNd.out k j hlt hj
          obtain ⟨sb, soff, rfl, c0, c1⟩ := HSk.out wr hbr2
          obtain ⟨sb', soff', e2, d0, d1⟩ := HSp.out wr hbr2 j (by omega)
          injection e2 with e2
          injection e2 with e3 e4 _
          subst e3 e4
          generalize (xpP m propsL l K).getD k (0, 0) = sk at *
          generalize (xpP m propsL l K).getD j (0, 0) = sj at *
          obtain ⟨x, y⟩ := sk
          obtain ⟨u, v⟩ := sj
          simp only at c0 c1 d0 d1 hne
          by_cases hux : x = u
          · have hvy : ¬ y = v := fun e => hne ⟨hux, e⟩
            subst hux
            go_wp2_with fail
            go_region_law (fail)
            all_goals go_wp2_with fail
            all_goals go_roundw
            all_goals first
              | exact ⟨j + 1, by omega, by go_num, hbr2.drew⟩
              | (simp [intOf]; omega)
          · go_wp2_with fail
            go_region_law (fail)
            all_goals go_wp2_with fail
            all_goals go_roundw
            all_goals first
              | exact ⟨j + 1, by omega, by go_num, hbr2.drew⟩
              | (simp [intOf]; omega)
        · obtain rfl : j = k := by omega
          obtain ⟨⟨q0, q1, q2, q3⟩, g0, g1, g2, g3, g4⟩ := HAll.out wr hbr2
          have hbh := HBh4.out wr.drew hbr2.drew j hlt
          have HNj : Hid (∀ w6, Below W4.heap.size W4 w6 → ∃ b off uo un uc, no = some ⟨b, off, none⟩ ∧ w6.cell? ⟨b, off + j, none⟩ = some (.slice uo un uc) ∧ un = (xpBh m propsL l ((xpP m propsL l K).getD j (0, 0))).length ∧ ∀ w5, Below w6.heap.size w6 w5 → w5.cell? ⟨b, off + j, none⟩ = some (.slice uo un uc) ∧ ∀ q, q < un → ∃ b2 off2, uo = some ⟨b2, off2, none⟩ ∧ w5.cell? ⟨b2, off2 + q, none⟩ = some (.int .i64 (((xpP m propsL l K).idxOf ((xpBh m propsL l ((xpP m propsL l K).getD j (0, 0))).getD q (0, 0)) : Nat) : Int))) := fun w6 h => HNx.out w6 h j hlt
          have HIj : Hid (∀ q, q < (xpBh m propsL l ((xpP m propsL l K).getD j (0, 0))).length → (xpP m propsL l K).idxOf ((xpBh m propsL l ((xpP m propsL l K).getD j (0, 0))).getD q (0, 0)) < K ∧ (xpP m propsL l K).getD ((xpP m propsL l K).idxOf ((xpBh m propsL l ((xpP m propsL l K).getD j (0, 0))).getD q (0, 0))) (0, 0) = (xpBh m propsL l ((xpP m propsL l K).getD j (0, 0))).getD q (0, 0)) := fun q hq => HIx.out j q hlt hq
          have hbz := HBl.out j hlt
          have HF14 : Hid (∀ w6, Below wr.heap.size wr w6 → (w6.cell? ⟨X, 0, none⟩ = some (.slice ao 2 ac) ∧ w6.cell? ⟨X, 1, none⟩ = some (.slice ro rn rc) ∧ w6.cell? ⟨X, 2, none⟩ = some (.slice (some ⟨pb, 0, none⟩) 3 3) ∧ w6.cell? ⟨X, 3, none⟩ = some (.slice fo fn fc)) ∧ w6.cell? ⟨G, 0, none⟩ = some (.slice so K sc) ∧ ∃ b off, so = some ⟨b, off, none⟩ ∧ w6.cell? ⟨b, off + j * 2, none⟩ = some (.int .i64 ((xpP m propsL l K).getD j (0, 0)).1) ∧ w6.cell? ⟨b, off + j * 2 + 1, none⟩ = some (.int .i64 ((xpP m propsL l K).getD j (0, 0)).2)) := fun w6 h => by
            have h4 := hbr2.trans (h.mono hbr2.size)
            exact ⟨(HAll.out w6 h4).1, (HAll.out w6 h4).2.1, HSk.out w6 h4⟩
          obtain ⟨sb, soff, rfl, c0, c1⟩ := HSk.out wr hbr2
          have HF14b : Hid (∀ w6, Below wr.heap.size wr w6 → (w6.cell? ⟨X, 0, none⟩ = some (.slice ao 2 ac) ∧ w6.cell? ⟨X, 1, none⟩ = some (.slice ro rn rc) ∧ w6.cell? ⟨X, 2, none⟩ = some (.slice (some ⟨pb, 0, none⟩) 3 3) ∧ w6.cell? ⟨X, 3, none⟩ = some (.slice fo fn fc)) ∧ w6.cell? ⟨G, 0, none⟩ = some (.slice (some ⟨sb, soff, none⟩) K sc) ∧ w6.cell? ⟨sb, soff + j * 2, none⟩ = some (.int .i64 ((xpP m propsL l K).getD j (0, 0)).1) ∧ w6.cell? ⟨sb, soff + j * 2 + 1, none⟩ = some (.int .i64 ((xpP m propsL l K).getD j (0, 0)).2)) := fun w6 h => by
            obtain ⟨a1, a2, b, off, e, a3, a4⟩ := HF14.out w6 h
            injection e with e
            injection e with e3 e4 _
            subst e3 e4
            exact ⟨a1, a2, a3, a4⟩
          clear HF14 HNd HBh4 HNx HIx HBl HSk
          generalize xpBh m propsL l ((xpP m propsL l K).getD j (0, 0)) = beh at *
          generalize hsj : (xpP m propsL l K).getD j (0, 0) = sj at *
          obtain ⟨x, y⟩ := sj
          simp only at c0 c1 hbh HF14b
          clear hsj
          have hB0 : Below wr.heap.size wr wr := Below.refl _ _
          obtain ⟨bhn, hbhn⟩ : ∃ bhn, beh.length = bhn := ⟨_, rfl⟩
          have HBn : Hid (beh.length = bhn) := hbhn
          rw [hbhn] at hbh hbz
          clear hbhn
          go_upto_region 14 with fail
          go_cut [12, 13] (fun u12 u13 wx => ∃ bo bc, u12 = .slice bo bhn bc ∧ u13 = .int .i64 0 ∧ Below wr.heap.size wr wx ∧ Hid (SpV wx (.slice bo bhn bc) beh))
          case first =>
            go_region_held3 (fun w' => (w'.cell? ⟨X, 0, none⟩ = some (.slice ao 2 ac) ∧ w'.cell? ⟨X, 1, none⟩ = some (.slice ro rn rc) ∧ w'.cell? ⟨X, 2, none⟩ = some (.slice (some ⟨pb, 0, none⟩) 3 3) ∧ w'.cell? ⟨X, 3, none⟩ = some (.slice fo fn fc)) ∧ w'.cell? ⟨G, 0, none⟩ = some (.slice (some ⟨sb, soff, none⟩) K sc) ∧ w'.cell? ⟨sb, soff + j * 2, none⟩ = some (.int .i64 x) ∧ w'.cell? ⟨sb, soff + j * 2 + 1, none⟩ = some (.int .i64 y))
              (first | exact HF14b.out _ hb6 | exact HF14b.out _ hB0.drew | exact HF14b.out _ hB0)
              (first | (go_at_call 10; refine hbh.mono ?_; rintro e w6 ⟨bo2, bc2, rfl, hb6', HS6⟩; have hb6 := hB0.drew.trans (hb6'.mono hB0.drew.size)))
            go_wp2_with fail
            go_meet
            exact ⟨bo2, bc2, rfl, rfl, hb6, HS6⟩
          case rest =>
            obtain ⟨bo2, bc2, rfl, rfl, hb6, HS6⟩ := hcut
            have hbc := hbr2.trans (hb6.mono hbr2.size)
            obtain ⟨nb, noff, uo, un, uc, rfl, nd, hun, hnr⟩ := HNj.out wc hbc
            obtain rfl : un = bhn := by rw [hun, HBn.out]
            have HNr : Hid (∀ w5, Below wc.heap.size wc w5 → w5.cell? ⟨nb, noff + j, none⟩ = some (.slice uo un uc) ∧ ∀ q, q < un → ∃ b2 off2, uo = some ⟨b2, off2, none⟩ ∧ w5.cell? ⟨b2, off2 + q, none⟩ = some (.int .i64 (((xpP m propsL l K).idxOf (beh.getD q (0, 0)) : Nat) : Int))) := hnr
            obtain ⟨_, e0, e1, e2, e3, e4⟩ := HAll.out wc hbc
            clear hnr hun HNj hbh HF14b c0 c1 q0 q1 q2 q3 g0 g1 g2 g3 g4
            go_wp2_with fail
            go_loopw [14] (fun i3 wr3 => ∃ q : Nat, q ≤ un ∧ i3 = .int .i64 q ∧ Below wc.heap.size wc wr3) (fun i3 _ => un - (intOf i3).toNat)
            case atStart => exact ⟨0, Nat.zero_le _, rfl, Below.refl _ _⟩
            case round =>
              obtain ⟨q, hq, rfl, hbr3⟩ := hrel
              by_cases hql : q < un
              · have hqi : (q : Int) < (un : Int) := by omega
                have hbc3 := hbc.trans (hbr3.mono hbc.size)
                obtain ⟨_, g0, g1, g2, g3, g4⟩ := HAll.out wr hbc3
                obtain ⟨n0, nq⟩ := HNr.out wr hbr3
                obtain ⟨ub, uoff, rfl, n1⟩ := nq q hql
                obtain ⟨i1, i2⟩ := HIj.out q (by rw [HBn.out]; exact hql)
                obtain ⟨bb, boff, rfl, _, d0, d1⟩ := (HS6.out.below hbr3).get (i := q) (by rw [HBn.out]; exact hql)
                obtain ⟨sb', soff', es, c0, c1⟩ := HSp.out wr hbc3 _ i1
                injection es with es
                injection es with es1 es2 _
                subst es1 es2
                rw [i2] at c0 c1
                generalize (xpP m propsL l K).idxOf (beh.getD q (0, 0)) = ix at *
                generalize beh.getD q (0, 0) = bq at *
                obtain ⟨u, v⟩ := bq
                simp only at c0 c1 d0 d1
                have hx1 : ¬ (ix : Int) < 0 := by omega
                have hx2 : ¬ (K : Int) ≤ (ix : Int) := by omega
                have hx3 : (ix : Int) < (K : Int) := by omega
                have hx4 : ¬ K ≤ ix := by omega
                clear i2
                go_upto_region 21 with fail
                go_quiet (fail)
                go_wp2_with fail
                go_roundw
                case rel => exact ⟨q + 1, by omega, by go_num, ⟨hbr3.os, hbr3.tape, hbr3.output, hbr3.size, hbr3.block⟩⟩
                case measure => simp [intOf]; omega
              · obtain rfl : q = un := by omega
                go_wp2_with fail
                go_roundw
                case rel => exact ⟨j + 1, by omega, by go_num, hbc.trans (hbr3.mono hbc.size)⟩
                case measure => simp [intOf]; omega
    · obtain rfl : k = K := by omega
      obtain ⟨hre, hck⟩ := HRe4.out wr hbr
      clear HNd HBh4 HNx HIx HBl HSp q0 q1 q2 q3 hck
      go_upto_region 24 with (first | (go_at_call 15; refine hre.mono ?_; rintro e w6 ⟨vo, vc, rfl, hb6, HR6⟩))
      have hbc := hbr.trans (hb6.mono hbr.size)
      clear hre g0 g1 g2 g3 g4
      go_wp2_with fail
      go_loopw [18] (fun i2 wr2 => ∃ j : Nat, j ≤ k ∧ i2 = .int .i64 j ∧ wr2 = w6) (fun i2 _ => k - (intOf i2).toNat)
      case atStart => exact ⟨0, Nat.zero_le _, rfl, rfl⟩
      case round =>
        obtain ⟨j, hj, rfl, rfl⟩ := hrel
        by_cases hjl : j < k
        · have hji : (j : Int) < (k : Int) := by omega
          obtain ⟨vb, voff, rfl, c0⟩ := HR6.out wr (Below.refl _ _) j hjl
          go_wp2_with fail
          go_roundw
          case rel => exact ⟨j + 1, by omega, by go_num, by trivial⟩
          case measure => simp [intOf]; omega
        · obtain rfl : j = k := by omega
          obtain ⟨_, hck⟩ := HRe4.out wr hbc
          obtain ⟨_, g0, g1, g2, g3, g4⟩ := HAll.out wr hbc
          go_wp2_with (first
            | (go_at_call 16; refine hck.mono ?_; rintro e w7 ⟨rfl, hb7⟩; have hbw7 := HBw.out w7 (hbc.trans (hb7.mono hbc.size)); have hpc := HPc.out w7 hbw7)
            | (go_at_call 17; refine hpc.mono ?_; rintro e w8 ⟨rfl, hb8⟩))
          go_ret
          exact ⟨by first | rfl | simp, hbw7.trans (hb8.mono hbw7.size)⟩
end Go.Proofs.YtafbnmiipfkohaaGreatDoor
