import Derived.Test.YtobopjjmhginlaaGreatDoorPGo
import Derived.Test.YtobopjjmhginlaaGreatDoorPBhd
namespace Go.Proofs.YtobopjjmhginlaaGreatDoor
open Go.ChangeShapes Go.WideShapes Go.ChangeAt Go.RowKit Go.Deep Go.Maps
open Terms Tm
set_option maxHeartbeats 6400000
set_option maxRecDepth 20000
def spOk (m : Mo) (l : List (Int × Int)) (p : Int × Int) : Prop := (0 <= p.1 /\ p.1 < prodTo m.vars m.vars.length) /\ ∃ d : Nat, d < 2 ^ (aheadL l).length /\ p.2 = (d : Int)
noncomputable def xpBh (m : Mo) (ps : List (List (Int × Int))) (l : List (Int × Int)) (p : Int × Int) : List (Int × Int) := behL m ps l p.1 p.2
noncomputable def xpP (m : Mo) (ps : List (List (Int × Int))) (l : List (Int × Int)) (k : Nat) : List (Int × Int) := exS (begL m ps l) (xpBh m ps l) k
noncomputable def xpAt (m : Mo) (ps : List (List (Int × Int))) (l : List (Int × Int)) (k : Nat) : Int × Int := (xpP m ps l k).getD k (0, 0)
noncomputable def xpN (m : Mo) (ps : List (List (Int × Int))) (l : List (Int × Int)) : Nat -> List (List Int)
  | 0 => []
  | k + 1 => xpN m ps l k ++ [plIx (xpP m ps l k) (xpBh m ps l (xpAt m ps l k))]
noncomputable def xpT (m : Mo) (ps : List (List (Int × Int))) (l : List (Int × Int)) : Nat -> List Int
  | 0 => []
  | k + 1 => xpT m ps l k ++ [metN l (letL m ps (xpAt m ps l k).1) (xpAt m ps l k).2]
section
variable {m : Mo} {ps : List (List (Int × Int))} {l : List (Int × Int)}
theorem xpP_succ (k : Nat) : xpP m ps l (k + 1) = plTo (xpP m ps l k) (xpBh m ps l (xpAt m ps l k)) := rfl
theorem xpN_len : ∀ k, (xpN m ps l k).length = k
  | 0 => rfl
  | k + 1 => by rw [xpN, List.length_append, xpN_len k]; rfl
theorem xpT_len : ∀ k, (xpT m ps l k).length = k
  | 0 => rfl
  | k + 1 => by rw [xpT, List.length_append, xpT_len k]; rfl
theorem xbg_mem {p : Int × Int} : ∀ k, p ∈ begTo m ps l k -> p.1 = begC m /\ ∃ d : Nat, d < k /\ p.2 = (d : Int) /\ tru l (letL m ps (begC m)) (d : Int) 0 ≠ true
  | 0, h => by simp [begTo] at h
  | k + 1, h => by
    rw [begTo] at h
    split at h
    · obtain ⟨h1, d, h2, h3⟩ := xbg_mem k h
      exact ⟨h1, d, by omega, h3⟩
    · next hf =>
      rw [List.mem_append, List.mem_singleton] at h
      rcases h with h | rfl
      · obtain ⟨h1, d, h2, h3⟩ := xbg_mem k h
        exact ⟨h1, d, by omega, h3⟩
      · exact ⟨rfl, k, by omega, rfl, hf⟩
theorem begL_spot (hk : tkcode m ps l = 0) {p : Int × Int} (h : p ∈ begL m ps l) : spOk m l p := by
  obtain ⟨h1, d, h2, h3, _⟩ := xbg_mem _ h; exact ⟨by rw [h1]; exact tk_beg hk, d, h2, h3⟩
theorem xpBh_spot (hk : tkcode m ps l = 0) {s p : Int × Int} (hs : spOk m l s) (h : p ∈ xpBh m ps l s) : spOk m l p := behL_spot (pcode_m (tk_zero hk).1).1 hs.1 h
theorem xpP_zero (hk : tkcode m ps l = 0) : ∀ p ∈ xpP m ps l 0, spOk m l p := fun p hp => by
  rcases (plTo_iff _ _ _).1 hp with h | h
  · exact absurd h List.not_mem_nil
  · exact begL_spot hk h
theorem xpAt_mem {k : Nat} (h : k < (xpP m ps l k).length) : xpAt m ps l k ∈ xpP m ps l k := by
  unfold xpAt; rw [List.getD_eq_getElem?_getD, List.getElem?_eq_getElem h]
  exact List.getElem_mem _
theorem xpP_next (hk : tkcode m ps l = 0) {k : Nat} (hl : k < (xpP m ps l k).length) (h : ∀ p ∈ xpP m ps l k, spOk m l p) : ∀ p ∈ xpP m ps l (k + 1), spOk m l p := fun p hp => by
  rw [xpP_succ] at hp
  rcases (plTo_iff _ _ _).1 hp with h1 | h1
  · exact h p h1
  · exact xpBh_spot hk (h _ (xpAt_mem hl)) h1
end
def ExDone (m : Mo) (ps : List (List (Int × Int))) (l : List (Int × Int)) (K : Nat) : Prop := (xpP m ps l K).length = K /\ K <= 20000 /\ (∀ j, j < K -> j < (xpP m ps l j).length) /\ ∀ p ∈ xpP m ps l K, spOk m l p
def ExFull (m : Mo) (ps : List (List (Int × Int))) (l : List (Int × Int)) : Prop := ∃ k, (∀ j, j <= k -> j < (xpP m ps l j).length) /\ 20000 < (xpP m ps l (k + 1)).length
def GrX (w : World) (base : Nat) (m : Mo) (ps : List (List (Int × Int))) (l : List (Int × Int)) (K : Nat) (sv nv tv : Value) : Prop := SpO w base sv (xpP m ps l K) /\ LsAt w base nv tv (xpN m ps l K) /\ w.ownsRow base 3 1 tv (xpT m ps l K).length (ivals (xpT m ps l K))
def ExAns (w : World) (m : Mo) (ps : List (List (Int × Int))) (l : List (Int × Int)) (e : Ending) (w' : World) : Prop :=
  (tkcode m ps l = 0 /\ ∃ K, ExDone m ps l K /\ ∃ sv nv tv, e = .returned (.tuple #[.agg #[sv, .int .i64 ((begL m ps l).length : Nat), nv, tv, .int .i64 ((aheadL l).length : Nat)], .int .i64 0]) /\ Below w.heap.size w w' /\ Hid (GrX w' w.heap.size m ps l K sv nv tv)) \/
  (tkcode m ps l = 0 /\ ExFull m ps l /\ e = .returned (.tuple #[.agg #[.slice none 0 0, .int .i64 0, .slice none 0 0, .slice none 0 0, .int .i64 0], .int .i64 12]) /\ Below w.heap.size w w') \/
  (tkcode m ps l ≠ 0 /\ e = .returned (.tuple #[.agg #[.slice none 0 0, .int .i64 0, .slice none 0 0, .slice none 0 0, .int .i64 0], .int .i64 (tkcode m ps l)]) /\ Below w.heap.size w w')
theorem ex_not_both {m : Mo} {ps : List (List (Int × Int))} {l : List (Int × Int)} {K : Nat} (h : ExDone m ps l K) : ¬ ExFull m ps l := by
  rintro ⟨k, h1, h2⟩
  obtain ⟨d1, d2, _, _⟩ := h
  by_cases hk : k + 1 <= K
  · have := (exS_le (begL m ps l) (xpBh m ps l) hk).length_le
    unfold xpP at h2 d1; omega
  · have := h1 K (by omega)
    omega
def grB (sv nv tv : Value) (init many : Int) : Obj := .cells #[sv, .int .i64 init, nv, tv, .int .i64 many] 60 (0, 0)
section
variable {w w' : World} {X : Nat} {sv nv tv : Value} {init many : Int}
theorem grB_cells (hb : w.heap[X]? = some (grB sv nv tv init many)) : w.cell? ⟨X, 0, none⟩ = some sv /\ w.cell? ⟨X, 1, none⟩ = some (.int .i64 init) /\ w.cell? ⟨X, 2, none⟩ = some nv /\ w.cell? ⟨X, 3, none⟩ = some tv /\ w.cell? ⟨X, 4, none⟩ = some (.int .i64 many) := by
  unfold grB at hb; refine ⟨?_, ?_, ?_, ?_, ?_⟩ <;> simp [World.cell?, hb]
theorem grB_free (hb : w.heap[X]? = some (grB sv nv tv init many)) (i : Nat) : w.frozen? ⟨X, i, none⟩ = false := by
  unfold grB at hb; simp [World.frozen?, hb]
theorem chg_box (w : World) (X : Nat) (a b c d e : Value) : Chg (fun i => i = X) w (((((w.setCell ⟨X, 0, none⟩ a).setCell ⟨X, 1, none⟩ b).setCell ⟨X, 2, none⟩ c).setCell ⟨X, 3, none⟩ d).setCell ⟨X, 4, none⟩ e) :=
  (((((Chg.setCell w ⟨X, 0, none⟩ a).trans (Chg.setCell _ ⟨X, 1, none⟩ b)).trans (Chg.setCell _ ⟨X, 2, none⟩ c)).trans (Chg.setCell _ ⟨X, 3, none⟩ d)).trans (Chg.setCell _ ⟨X, 4, none⟩ e))
theorem GrX.chg {base K : Nat} {m : Mo} {ps : List (List (Int × Int))} {l : List (Int × Int)} (h : GrX w base m ps l K sv nv tv) (hs : Chg (fun i => i = X) w w') (ht : TyB w X 60) : GrX w' base m ps l K sv nv tv := by
  obtain ⟨h1, h2, h3⟩ := h; obtain ⟨us, n1, _⟩ := id h2; have hno : ∀ g t, TyB w g t -> t ≠ 60 -> g ≠ X := fun g t hg hn e => hn (hg.eq (e ▸ ht))
  exact ⟨owns_chg h1 hs (fun g e => hno g _ (owns_ty h1 e).2 (by decide)), h2.chg hs (fun i z => ⟨fun e => hno i _ (owns_ty n1 e).2 (by decide) z, fun _ _ _ _ _ hi => hno i _ hi (by decide) z⟩), owns_chg h3 hs (fun g e => hno g _ (owns_ty h3 e).2 (by decide))⟩
theorem LsAt.mono {base base' : Nat} {N : List (List Int)} (h : LsAt w base nv tv N) (hb : base' <= base) : LsAt w base' nv tv N := by
  obtain ⟨us, h1, h2, h3⟩ := h; refine ⟨us, owns_mono h1 hb, h2, fun i hi => ?_⟩
  obtain ⟨ao, c, e1, e2, e3, e4⟩ := h3 i hi; exact ⟨ao, c, e1, e2, e3, fun a e => ⟨(e4 a e).1, Nat.le_trans hb (e4 a e).2⟩⟩
end
end Go.Proofs.YtobopjjmhginlaaGreatDoor
