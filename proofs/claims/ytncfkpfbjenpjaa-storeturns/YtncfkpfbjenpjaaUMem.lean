/-
  Numbers and lists of them as they lie in memory; from a row's premises to values, and back.
-/
import Derived.Test.YtncfkpfbjenpjaaRows
import Derived.WalkKit
import Derived.WalkSpells
import Derived.WalkLawsBesides
import Derived.Deep.OwnRows
import Derived.ProofKit
import Derived.Deep.QuietTactic
import Derived.BigQuiet
import Derived.Laws.AppendOwnNone
import Derived.Laws.IdiomStrings
import Derived.OpenShut
import Derived.Deep.DeepHandedRow
import Derived.Deep.SlicePairs
import Derived.Lib.SmallJoins
import Derived.Deep.AppendLies
import Derived.Deep.RegionHeld3
import Derived.Deep.RegionLaw
import Derived.Deep.Cut
import Derived.Deep.CutBlock
import Derived.Deep.CutRange
import Derived.Deep.DeepCutAuto
namespace Go.Proofs.Ytncfkpfbjenpjaa
open Go.ChangeShapes Go.WideShapes Go.ChangeAt Go.RowKit Go.Deep Go.Joins

set_option maxRecDepth 20000 in
theorem own : ownKnob Try.prog.godebug = none := by kernel_rfl
set_option maxRecDepth 20000 in
theorem laidOut : laidOutB Try.prog = true := by kernel_rfl
set_option maxRecDepth 20000 in
theorem cellsInt : Try.prog.cellsOf 3 = 1 := by kernel_rfl
set_option maxRecDepth 20000 in
theorem bytesInt : Try.prog.bytesOf 3 = 8 := by kernel_rfl
set_option maxRecDepth 20000 in
theorem cellsInts : Try.prog.cellsOf 22 = 1 := by kernel_rfl
set_option maxRecDepth 20000 in
theorem bytesInts : Try.prog.bytesOf 22 = 24 := by kernel_rfl
set_option maxRecDepth 20000 in
theorem infoInts : (Try.prog.info? 22).map (fun i => (i.zero, i.size, i.bytes)) = some (some (.slice none 0 0), 1, 24) := by kernel_rfl
set_option maxRecDepth 20000 in
theorem cellsLists : Try.prog.cellsOf 23 = 1 := by kernel_rfl
set_option maxRecDepth 20000 in
theorem cellsStore : Try.prog.cellsOf 25 = 2 := by kernel_rfl
theorem infoInt : (Try.prog.info? 3).map (fun i => (i.zero, i.size, i.bytes)) = some (some (.int .i64 0), 1, 8) := by kernel_rfl

set_option maxRecDepth 20000 in
theorem trodAll_stays {H : Type} {enc : TypeId × Value → H} {W W' : World} (hb : Below W.heap.size W W') : ∀ (ts : List TypeId) (vs : List Value) (ds : List (DataW H)) (ps : List MemPlace),
    (∀ t ∈ ts, Try.prog.readableRec t = true ∧ t < Try.prog.types.size) → (∀ x ∈ ps, x.block < W.heap.size) → DataW.TrodAll enc Try.prog W 0 (fun _ => true) true ts vs ds ps →
    DataW.TrodAll enc Try.prog W' 0 (fun b => decide (b < W.heap.size)) true ts vs ds ps := by
  intro ts
  induction ts with
  | nil =>
    intro vs ds ps _ _ h
    obtain ⟨rfl, rfl, rfl⟩ := trodAll_nil h
    exact trodAll_mk0
  | cons t ts ih =>
    intro vs ds ps hr hlt h
    obtain ⟨v0, vs0, d0, ds0, p0, q0, rfl, rfl, rfl, h0, r0⟩ := trodAll_cons h
    exact trodAll_cons_mk (Below.trod laidOut (hr t (by simp)).1 (hr t (by simp)).2 h0 hb (fun x hx => hlt x (by simp [hx]))) (ih _ _ _ (fun t ht => hr t (by simp [ht])) (fun x hx => hlt x (by simp [hx])) r0)

set_option maxRecDepth 20000 in
/-- THE END OF A LAW's CALL: it answered true, and nothing that was there has turned. -/
theorem law_post {H : Type} {enc : TypeId × Value → H} {f : Func} {s : ChangeSpec} {W W' : World} {args : Array Value} {ds gs : List (DataW H)} {before : List MemPlace}
    (hread : ∀ t ∈ f.params.toList, Try.prog.readableRec t = true ∧ t < Try.prog.types.size) (hv0 : s.vars = []) (hrt : f.resultTypes = #[4])
    (hW : DataW.Whole enc Try.prog f.params.toList s.vars false W args.toList ds gs before)
    (h1 : (s.fn H (ds ++ gs)).results = [.lit (.bool true)]) (h2 : (s.fn H (ds ++ gs)).args = ds) (h3 : (s.fn H (ds ++ gs)).vars = [])
    (hb : Below W.heap.size W W') : s.post enc Try.prog f false true false false W args (.bool true) W' := by
  have hW' := hW
  obtain ⟨p, q, hA, hV, rfl, hfz, hnd⟩ := hW
  rw [hv0] at hV
  obtain ⟨rfl, rfl⟩ := trodVars_none hV
  have hlt : ∀ x ∈ p, x.block < W.heap.size := fun x hx => by simpa using hW'.lt x (by simp [hx])
  refine ⟨ds, [], p ++ [], [], p, [], hW', ?_, ?_, ?_, hb.frame _, fun h => by cases h⟩
  · rw [h1, hrt]
    exact trodAll_cons_mk (shut_bool Try.underlying4 _) trodAll_mk0
  · rw [h2]
    exact trodAll_stays hb _ _ _ _ hread hlt hA
  · rw [hv0, h3]
    rfl

/-- two rows of other elements lie in other blocks. -/
theorem owns_apart {w : World} {base base' : Nat} {e e' : TypeId} {s s' n n' : Nat} {v v' : Value} {xs xs' : List Value} (he : e ≠ e') (h : w.ownsRow base e s v n xs) (h' : w.ownsRow base' e' s' v' n' xs') : v.ownBlock = none ∨ v.ownBlock ≠ v'.ownBlock := by
  rcases h.2 with ⟨rfl, _⟩ | ⟨g, cap, cur, rfl, _, hg, _⟩
  · exact .inl rfl
  · refine .inr fun hx => ?_
    rcases h'.2 with ⟨rfl, _⟩ | ⟨g', cap', cur', rfl, _, hg', _⟩
    · simp [Value.ownBlock] at hx
    · simp [Value.ownBlock] at hx
      subst hx
      rw [hg] at hg'
      simp at hg'
      exact he hg'.2
/-- blocks from base on that nobody writes. -/
theorem owns_later {w w' : World} {base B : Nat} {e : TypeId} {s n : Nat} {v : Value} {xs : List Value} (h : w.ownsRow base e s v n xs) (hb : Below B w w') (hB : w.heap.size ≤ B) : w'.ownsRow base e s v n xs := by
  obtain ⟨h1, h2⟩ := h
  refine ⟨h1, ?_⟩
  rcases h2 with h2 | ⟨g, cap, cur, hv, hg, hh, r⟩
  · exact .inl h2
  · have hlt := (Array.getElem?_eq_some_iff.1 hh).1
    exact .inr ⟨g, cap, cur, hv, hg, (hb.block g (by omega)).trans hh, r⟩
theorem owns_mono {w : World} {base base' : Nat} {e : TypeId} {s n : Nat} {v : Value} {xs : List Value} (h : w.ownsRow base e s v n xs) (hb : base' ≤ base) : w.ownsRow base' e s v n xs := by
  obtain ⟨h1, h2⟩ := h
  refine ⟨h1, ?_⟩
  rcases h2 with h2 | ⟨g, cap, cur, hv, hg, r⟩
  · exact .inl h2
  · exact .inr ⟨g, cap, cur, hv, by omega, r⟩
theorem owns_slice {w : World} {base : Nat} {e : TypeId} {s n : Nat} {v : Value} {xs : List Value} (h : w.ownsRow base e s v n xs) : ∃ ao cap, v = .slice ao n cap := by
  rcases h.2 with ⟨rfl, rfl⟩ | ⟨g, cap, cur, rfl, _⟩
  · exact ⟨_, _, rfl⟩
  · exact ⟨_, _, rfl⟩

/-! ### numbers -/
def ivals (l : List Int) : List Value := l.map fun x => .int .i64 x
theorem ivals_length (l : List Int) : (ivals l).length = l.length := by simp [ivals]
theorem ivals_append (l m : List Int) : ivals (l ++ m) = ivals l ++ ivals m := by simp [ivals]
theorem ivals_one (l : List Int) : ∀ u ∈ ivals l, u.oneCell' = true := by
  intro u hu
  simp only [ivals, List.mem_map] at hu
  obtain ⟨p, _, rfl⟩ := hu
  rfl
def IntsAt (w : World) (b off : Nat) (l : List Int) : Prop := ∀ i, i < l.length → w.cell? ⟨b, off + i, none⟩ = some (.int .i64 (l.getD i 0))
theorem IntsAt.below {B b off : Nat} {l : List Int} {w w' : World} (h : IntsAt w b off l) (hb : Below B w w') (hB : b < B) : IntsAt w' b off l := fun i hi => (hb.cell (p := ⟨b, _, none⟩) hB).trans (h i hi)
/-- a slice of numbers. -/
def IntsV (w : World) (v : Value) (l : List Int) : Prop := ∃ ao cap, v = .slice ao l.length cap ∧ (l.length ≤ cap ∧ (ao = none → cap = 0 ∧ l = [])) ∧ (l ≠ [] → ∃ b off, ao = some ⟨b, off, none⟩ ∧ b < w.heap.size ∧ IntsAt w b off l)
theorem IntsV.below {w w' : World} {v : Value} {l : List Int} (h : IntsV w v l) (hb : Below w.heap.size w w') : IntsV w' v l := by
  obtain ⟨ao, cap, rfl, h0, h⟩ := h
  refine ⟨ao, cap, rfl, h0, fun hne => ?_⟩
  obtain ⟨b, off, rfl, hlt, hat⟩ := h hne
  exact ⟨b, off, rfl, Nat.lt_of_lt_of_le hlt hb.size, hat.below hb hlt⟩
theorem intsV_nil (w : World) : IntsV w (.slice none 0 0) [] := ⟨none, 0, rfl, ⟨Nat.le_refl _, fun _ => ⟨rfl, rfl⟩⟩, fun h => absurd rfl h⟩
theorem IntsV.shape {w : World} {v : Value} {l : List Int} (h : IntsV w v l) : ∃ ao cap, v = .slice ao l.length cap := by
  obtain ⟨ao, cap, rfl, _⟩ := h
  exact ⟨_, _, rfl⟩
theorem IntsAt.cells {w : World} {b off : Nat} {l : List Int} (h : IntsAt w b off l) : ∀ j u, (ivals l)[j]? = some u → w.cell? ((⟨b, off, none⟩ : Addr).add j) = some u := by
  intro j u hj
  have hlt : j < l.length := by have := (List.getElem?_eq_some_iff.1 hj).1; simpa [ivals] using this
  rw [Go.WideShapes.add_plain, h j hlt]
  simp [ivals, hlt] at hj
  simp [List.getD_eq_getElem?_getD, hlt, hj]
theorem IntsV.cells {w : World} {a : Addr} {cap : Nat} {l : List Int} (h : IntsV w (.slice (some a) l.length cap) l) : ∀ j u, (ivals l)[j]? = some u → w.cell? (a.add j) = some u := by
  intro j u hj
  have hlt : j < l.length := by have := (List.getElem?_eq_some_iff.1 hj).1; simpa [ivals] using this
  obtain ⟨ao, c, e, _, h⟩ := h
  obtain ⟨b, off, e2, _, hat⟩ := h (by intro h; subst h; simp at hlt)
  simp at e
  obtain rfl := Option.some.inj (e.1.trans e2)
  exact hat.cells j u hj
theorem intsV_of_owns {w : World} {base : Nat} {v : Value} {l : List Int} (h : w.ownsRow base 3 1 v l.length (ivals l)) : IntsV w v l := by
  rcases h.2 with ⟨rfl, h0⟩ | ⟨g, cap, cur, rfl, hb, hg, hnc, hcm, hcs, htake⟩
  · have : l = [] := by simpa using h0
    subst this
    exact intsV_nil w
  · refine ⟨_, cap, rfl, ⟨hnc, fun h => by simp at h⟩, fun _ => ⟨g, 0, rfl, (Array.getElem?_eq_some_iff.1 hg).1, fun i hi => ?_⟩⟩
    rw [Nat.zero_add, h.cellAt i (by omega)]
    simp [ivals, List.getD_eq_getElem?_getD, hi]
theorem IntsV.at {w : World} {ao : Option Addr} {cap n : Nat} {l : List Int} (h : IntsV w (.slice ao n cap) l) {i : Nat} (hi : i < l.length) : ∃ b off, ao = some ⟨b, off, none⟩ ∧ b < w.heap.size ∧ l.length ≤ cap ∧ IntsAt w b off l := by
  obtain ⟨ao', cap', hv, ⟨hc, _⟩, h3⟩ := h
  injection hv with e1 e2 e3
  subst e1 e3
  obtain ⟨b, off, e, hlt, hat⟩ := h3 (by rintro rfl; simp at hi)
  exact ⟨b, off, e, hlt, hc, hat⟩
/-- the numbers from a place on. -/
theorem IntsV.rest {w : World} {ao : Option Addr} {cap n k : Nat} {l : List Int} (h : IntsV w (.slice ao n cap) l) (hk : k < l.length) : ∃ b off, ao = some ⟨b, off, none⟩ ∧ b < w.heap.size ∧ ¬ cap = k ∧ l.length ≤ cap ∧ IntsAt w b (off + k) (l.drop k) := by
  obtain ⟨b, off, e, hlt, hc, hat⟩ := h.at hk
  refine ⟨b, off, e, hlt, by omega, hc, fun i hi => ?_⟩
  rw [List.length_drop] at hi
  rw [show off + k + i = off + (k + i) by omega, hat (k + i) (by omega)]
  simp [List.getD_eq_getElem?_getD]

/-! ### lists of numbers -/
def nilV : Value := .slice none 0 0
/-- lists that lie somewhere. -/
def LisV (w : World) (v : Value) (rs : List (List Int)) : Prop := ∃ (us : List Value) (ao : Option Addr) (cap : Nat), v = .slice ao rs.length cap ∧ (rs.length ≤ cap ∧ (ao = none → cap = 0 ∧ rs = [])) ∧ us.length = rs.length ∧ (∀ i, i < rs.length → IntsV w (us.getD i nilV) (rs.getD i [])) ∧ (rs ≠ [] → ∃ b off, ao = some ⟨b, off, none⟩ ∧ b < w.heap.size ∧ ∀ i, i < rs.length → w.cell? ⟨b, off + i, none⟩ = some (us.getD i nilV))
theorem LisV.below {w w' : World} {v : Value} {rs : List (List Int)} (h : LisV w v rs) (hb : Below w.heap.size w w') : LisV w' v rs := by
  obtain ⟨us, ao, cap, rfl, h0, h1, h2, h3⟩ := h
  refine ⟨us, ao, cap, rfl, h0, h1, fun i hi => (h2 i hi).below hb, fun hne => ?_⟩
  obtain ⟨b, off, rfl, hlt, hat⟩ := h3 hne
  exact ⟨b, off, rfl, Nat.lt_of_lt_of_le hlt hb.size, fun i hi => (hb.cell (p := ⟨b, _, none⟩) hlt).trans (hat i hi)⟩
theorem LisV.nil (w : World) : LisV w (.slice none 0 0) [] := ⟨[], none, 0, rfl, ⟨Nat.le_refl _, fun _ => ⟨rfl, rfl⟩⟩, rfl, fun i hi => by simp at hi, fun h => absurd rfl h⟩
theorem LisV.shape {w : World} {v : Value} {rs : List (List Int)} (h : LisV w v rs) : ∃ ao cap, v = .slice ao rs.length cap := by
  obtain ⟨us, ao, cap, rfl, _⟩ := h
  exact ⟨_, _, rfl⟩
theorem LisV.at {w : World} {ao : Option Addr} {cap n : Nat} {rs : List (List Int)} (h : LisV w (.slice ao n cap) rs) {i : Nat} (hi : i < rs.length) : ∃ b off, ao = some ⟨b, off, none⟩ ∧ b < w.heap.size ∧ ∃ u, w.cell? ⟨b, off + i, none⟩ = some u ∧ IntsV w u (rs.getD i []) := by
  obtain ⟨us, ao', cap', hv, h0, h1, h2, h3⟩ := h
  injection hv with e1 e2 e3
  subst e1
  obtain ⟨b, off, e, hlt, hat⟩ := h3 (by rintro rfl; simp at hi)
  exact ⟨b, off, e, hlt, _, hat i hi, h2 i hi⟩
/-- LISTS OF NUMBERS that lie in memory of their own. -/
def LisO (w : World) (base : Nat) (v : Value) (rs : List (List Int)) : Prop :=
  ∃ us, w.ownsRow base 22 1 v rs.length us ∧ us.length = rs.length ∧ ∀ i, i < rs.length → w.ownsRow base 3 1 (us.getD i nilV) (rs.getD i []).length (ivals (rs.getD i []))
theorem LisO.nil (w : World) (base : Nat) : LisO w base (.slice none 0 0) [] := ⟨[], World.ownsRow_nil _ _ _ _, rfl, fun i hi => by simp at hi⟩
theorem LisO.mono {w : World} {base base' : Nat} {v : Value} {rs : List (List Int)} (h : LisO w base v rs) (hb : base' ≤ base) : LisO w base' v rs := by
  obtain ⟨us, h1, h2, h3⟩ := h
  exact ⟨us, owns_mono h1 hb, h2, fun i hi => owns_mono (h3 i hi) hb⟩
theorem LisO.later {w w' : World} {base B : Nat} {v : Value} {rs : List (List Int)} (h : LisO w base v rs) (hb : Below B w w') (hB : w.heap.size ≤ B) : LisO w' base v rs := by
  obtain ⟨us, h1, h2, h3⟩ := h
  exact ⟨us, owns_later h1 hb hB, h2, fun i hi => owns_later (h3 i hi) hb hB⟩
theorem LisO.shape {w : World} {base : Nat} {v : Value} {rs : List (List Int)} (h : LisO w base v rs) : ∃ ao cap, v = .slice ao rs.length cap := owns_slice h.choose_spec.1
theorem getD_app {α : Type} (a b : List α) (d : α) (i : Nat) : (a ++ b).getD i d = if i < a.length then a.getD i d else b.getD (i - a.length) d := by
  by_cases h : i < a.length
  · rw [if_pos h]; simp [List.getD_eq_getElem?_getD, List.getElem?_append_left h]
  · rw [if_neg h]; simp [List.getD_eq_getElem?_getD, List.getElem?_append_right (Nat.le_of_not_lt h)]
/-- one more list. -/
theorem LisO.snoc {w w' : World} {base : Nat} {v v' u : Value} {us : List Value} {rs : List (List Int)} {l : List Int} (h1 : w.ownsRow base 22 1 v rs.length us) (h2 : us.length = rs.length) (h3 : ∀ i, i < rs.length → w.ownsRow base 3 1 (us.getD i nilV) (rs.getD i []).length (ivals (rs.getD i [])))
    (hu : w.ownsRow base 3 1 u l.length (ivals l)) (ho : w'.ownsRow base 22 1 v' (rs.length + 1) (us ++ [u])) (hg : w.grownBy w' v.ownBlock) : LisO w' base v' (rs ++ [l]) := by
  refine ⟨us ++ [u], by simpa using ho, by simp [h2], fun i hi => ?_⟩
  rw [getD_app, getD_app, h2]
  have hne : ∀ (x : Value) (n : Nat) (xs : List Value), w.ownsRow base 3 1 x n xs → x.ownBlock = none ∨ x.ownBlock ≠ v.ownBlock := fun x n xs hx => owns_apart (by decide) hx h1
  by_cases hlt : i < rs.length
  · rw [if_pos hlt, if_pos hlt]
    exact (h3 i hlt).kept hg (hne _ _ _ (h3 i hlt))
  · rw [if_neg hlt, if_neg hlt]
    have : i = rs.length := by simp at hi; omega
    subst this
    rw [Nat.sub_self]
    exact hu.kept hg (hne _ _ _ hu)
theorem LisO.v {w : World} {base : Nat} {v : Value} {rs : List (List Int)} (h : LisO w base v rs) : LisV w v rs := by
  obtain ⟨us, h1, h2, h3⟩ := h
  rcases h1.2 with ⟨rfl, h0⟩ | ⟨g, cap, cur, rfl, hb, hg, hnc, hcm, hcs, htake⟩
  · have : rs = [] := by simpa using h0
    subst this
    exact LisV.nil w
  · refine ⟨us, _, cap, rfl, ⟨hnc, fun h => by simp at h⟩, h2, fun i hi => intsV_of_owns (h3 i hi), fun _ => ⟨g, 0, rfl, (Array.getElem?_eq_some_iff.1 hg).1, fun i hi => ?_⟩⟩
    rw [Nat.zero_add, h1.cellAt i (by omega)]
    simp [List.getD_eq_getElem?_getD, show i < us.length by omega]
theorem one_cell (w : World) (a : Value) (t : TypeId) : ∀ j u, [a][j]? = some u → (w.alloc (.cells #[a] t)).cell? ((⟨w.heap.size, 0, none⟩ : Addr).add j) = some u := by
  intro j u hj
  match j, hj with
  | 0, hj => simp at hj; subst hj; simp [Addr.add, go_sem]
theorem owns_setCell {w : World} {base : Nat} {e : TypeId} {s n : Nat} {v : Value} {xs : List Value} {p : Addr} (h : w.ownsRow base e s v n xs) (hp : p.block < base) (u : Value) : (w.setCell p u).ownsRow base e s v n xs := by
  obtain ⟨h1, h2⟩ := h
  refine ⟨h1, ?_⟩
  rcases h2 with h2 | ⟨g, cap, cur, hv, hg, hh, r⟩
  · exact .inl h2
  · refine .inr ⟨g, cap, cur, hv, hg, ?_, r⟩
    exact (Below.heap_setCell w p u g (by omega)).trans hh
theorem LisO.setCell {w : World} {base : Nat} {v : Value} {rs : List (List Int)} {p : Addr} (h : LisO w base v rs) (hp : p.block < base) (u : Value) : LisO (w.setCell p u) base v rs := by
  obtain ⟨us, h1, h2, h3⟩ := h
  exact ⟨us, owns_setCell h1 hp u, h2, fun i hi => owns_setCell (h3 i hi) hp u⟩

/-! ### boxes of two cells -/
/-- what a box holds. -/
def Bc (w1 : World) (b : Nat) (y0 y1 : Value) : Prop := b < w1.heap.size ∧ w1.cell? ⟨b, 0, none⟩ = some y0 ∧ w1.cell? ⟨b, 1, none⟩ = some y1
theorem Bc.later {w1 w2 : World} {b : Nat} {y0 y1 : Value} (h : Bc w1 b y0 y1) (hb : Below w1.heap.size w1 w2) : Bc w2 b y0 y1 :=
  ⟨Nat.lt_of_lt_of_le h.1 hb.size, (hb.cell (p := ⟨b, 0, none⟩) h.1).trans h.2.1, (hb.cell (p := ⟨b, 1, none⟩) h.1).trans h.2.2⟩
theorem Bc.arg (w : World) (y0 y1 : Value) (t : TypeId) : Below w.heap.size w (w.alloc (.cells #[y0, y1] t)) ∧ Bc (w.alloc (.cells #[y0, y1] t)) w.heap.size y0 y1 := by
  refine ⟨(Below.refl _ _).alloc (Nat.le_refl _) _, by simp, ?_, ?_⟩ <;> simp [go_sem]
/-- what a box holds that may be written. -/
def Bw (w1 : World) (b : Nat) (y0 y1 : Value) : Prop := Bc w1 b y0 y1 ∧ w1.frozen? ⟨b, 0, none⟩ = false ∧ w1.frozen? ⟨b, 1, none⟩ = false
theorem Bw.later {w1 w2 : World} {b : Nat} {y0 y1 : Value} (h : Bw w1 b y0 y1) (hb : Below w1.heap.size w1 w2) : Bw w2 b y0 y1 :=
  ⟨h.1.later hb, (hb.frozen (p := ⟨b, 0, none⟩) h.1.1).trans h.2.1, (hb.frozen (p := ⟨b, 1, none⟩) h.1.1).trans h.2.2⟩
theorem Bw.new (w : World) (y0 y1 : Value) (t : TypeId) : Bw (w.alloc (.cells #[y0, y1] t)) w.heap.size y0 y1 := by
  refine ⟨(Bc.arg w y0 y1 t).2, ?_, ?_⟩ <;> simp [go_sem]

section
variable {H : Type} {enc : TypeId × Value → H} {W : World}
/-- nothing in it is too great. -/
def LightW (t : TypeId) (d : DataW H) : Prop := ∀ n ∈ d.weights Try.prog t, n ≤ reachBytes
theorem mem_weights {P : Program} {e : TypeId} {x : DataW H} {n : Nat} (hn : n ∈ x.weights P e) : ∀ {l : List (DataW H)}, x ∈ l → n ∈ DataW.weightsAll P e l
  | y :: l, hx => by
    simp only [DataW.weightsAll, List.mem_append]
    rcases List.mem_cons.1 hx with rfl | hx
    · exact .inl hn
    · exact .inr (mem_weights hn hx)
theorem LightW.slice {t e : TypeId} {elems spare : List (DataW H)} (hu : Try.prog.underlying t = some (.slice e)) (h : LightW t (.slice elems spare)) : (elems.length + spare.length) * Try.prog.bytesOf e ≤ reachBytes ∧ ∀ x ∈ elems, LightW e x := by
  refine ⟨h _ (by simp [DataW.weights, hu]), fun x hx n hn => h n ?_⟩
  simp only [DataW.weights, hu, List.mem_cons, List.mem_append]
  exact .inr (.inl (mem_weights hn hx))
theorem LightW.agg2 {t : TypeId} {f0 f1 : Field} {x0 x1 : DataW H} (hu : Try.prog.underlying t = some (.struct #[f0, f1])) (h : LightW t (.agg [x0, x1])) : LightW f0.type x0 ∧ LightW f1.type x1 := by
  refine ⟨fun n hn => h n ?_, fun n hn => h n ?_⟩
  · simp [DataW.weights, hu, DataW.weightsEach, hn]
  · simp [DataW.weights, hu, DataW.weightsEach, hn]
theorem light_of {ts : List TypeId} {ds : List (DataW H)} {j : Nat} {t : TypeId} {d : DataW H} (hsz : (DataW.weightsEach Try.prog ts ds).all (· ≤ reachBytes) = true) (ht : ts[j]? = some t) (hd : ds[j]? = some d) : LightW t d := by
  intro n hn
  have hall := List.all_eq_true.1 hsz
  have : n ∈ DataW.weightsEach Try.prog ts ds := by
    clear hsz hall
    induction ts generalizing ds j with
    | nil => simp at ht
    | cons t0 ts ih =>
      cases ds with
      | nil => simp at hd
      | cons d0 ds =>
        simp only [DataW.weightsEach, List.mem_append]
        cases j with
        | zero => simp at ht hd; subst ht; subst hd; exact .inl hn
        | succ j => exact .inr (ih (by simpa using ht) (by simpa using hd))
  simpa using hall n this
theorem range_getD {α : Type} (f : Nat → α) (d : α) {n i : Nat} (hi : i < n) : ((List.range n).map f).getD i d = f i := by simp [List.getD_eq_getElem?_getD, hi]
theorem open_ints_c {fuel : Nat} {v : Value} {d : DataW H} {p : List MemPlace} (hf : DataW.trod enc Try.prog W 0 (fun _ => true) true fuel 22 [v] = some (d, p)) (hw : LightW 22 d) : ∃ l, IntsV W v l ∧ l.length * 8 ≤ 140737488355328 := by
  rcases open_slice1 Try.underlying22 cellsInt hf with ⟨hcs, hx⟩ | ⟨a, len, cap, m, n, V, D, Pl, hcs, _, hl, hm, hmm, hx, hcell⟩
  · simp at hcs
    subst hcs
    exact ⟨[], intsV_nil W, by simp⟩
  · simp at hcs
    subst hcs
    simp at hmm
    subst hmm
    rw [(Prod.mk.inj hx).1] at hw
    have hs := (hw.slice Try.underlying22).1
    rw [bytesInt] at hs
    simp only [List.length_map, List.length_range, reachBytes] at hs
    refine ⟨(List.range len).map fun i => intOf (V i), ⟨some a, m, by simp, ⟨by simp; omega, fun h => by simp at h⟩, fun hne => ?_⟩, by simp; omega⟩
    have hpos : 0 < len := by
      rcases Nat.eq_zero_or_pos len with h0 | h0
      · subst h0; simp at hne
      · exact h0
    obtain ⟨b, off, spot⟩ := a
    have hspot : spot = none := by simpa [Addr.add] using World.cell?_spot (hcell 0 (by omega)).1
    subst hspot
    refine ⟨b, off, rfl, ?_, fun i hi => ?_⟩
    · have := World.block_lt_of_cell? W _ (hcell 0 (by omega)).1
      simpa [Addr.add] using this
    · simp only [List.length_map, List.length_range] at hi
      obtain ⟨c0, t0⟩ := hcell i (by omega)
      rw [add_plain] at c0
      obtain ⟨x0, e0, _, _⟩ := DataW.trod_int Try.underlying3 t0
      simp at e0
      rw [c0, range_getD _ _ hi, e0]
      rfl
end
end Go.Proofs.Ytncfkpfbjenpjaa
