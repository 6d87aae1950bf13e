/-
  A map of the call's own with elements of any kind: what is asked, and what is put.
-/
import Derived.Test.YtnicbkkkecfdpaaDoorMem
import Derived.Maps.OwnSet
namespace Go.Proofs.YtnicbkkkecfdpaaDoor
open Go.ChangeShapes Go.WideShapes Go.ChangeAt Go.RowKit Go.Deep Go.Maps

/-- an element reads as itself. -/
def heldR : Value → Option (DataW Value × List MemPlace) := fun v => some (.held v, [])
/-- block b is a map of at most n entries, by its keys f. -/
def MapIs (w : World) (kt : TypeId) (b n : Nat) (f : Lit → Option Value) : Prop :=
  ∃ D : DataW Value, w.ownsMap Tryd.prog kt heldR b n D ∧ ∀ x, Maps.has D x = (f x).isSome ∧ ∀ v, f x = some v → ∀ z, D.atKey x z = .held v
theorem MapIs.lt {w : World} {kt : TypeId} {b n : Nat} {f : Lit → Option Value} (h : MapIs w kt b n f) : b < w.heap.size := by
  obtain ⟨D, h1, _⟩ := h
  exact h1.lt
theorem MapIs.isMap {w : World} {kt : TypeId} {b n : Nat} {f : Lit → Option Value} (h : MapIs w kt b n f) : ∃ es c, w.heap[b]? = some (.map es c) := by
  obtain ⟨D, ⟨es, c, h1, _⟩, _⟩ := h
  exact ⟨es, c, h1⟩
theorem MapIs.new {w : World} (kt : TypeId) {b : Nat} (h : w.heap[b]? = some (.map #[] 0)) : MapIs w kt b 0 (fun _ => none) := by
  obtain ⟨es, c, h1, h2, h3, h4⟩ := World.ownsMap_made w Tryd.prog kt heldR
  rw [(MapKept.heap_alloc w _).1] at h1
  injection h1 with h1
  injection h1 with h5 h6
  subst h5 h6
  exact ⟨.map [], ⟨#[], 0, h, h2, Nat.le_refl _, rfl⟩, fun x => ⟨by simp [Maps.has], fun v hv => by simp at hv⟩⟩
theorem MapIs.kept {w w' : World} {kt : TypeId} {b n : Nat} {f : Lit → Option Value} (h : MapIs w kt b n f) (e : w'.heap[b]? = w.heap[b]?) : MapIs w' kt b n f := by
  obtain ⟨D, ⟨es, c, h1, h2⟩, h3⟩ := h
  exact ⟨D, ⟨es, c, e.trans h1, h2⟩, h3⟩
set_option maxRecDepth 20000 in
/-- what is asked. -/
theorem MapIs.look {w : World} {kt : TypeId} {b n : Nat} {f : Lit → Option Value} (h : MapIs w kt b n f) (K : Keyed Tryd.prog kt) {t e : TypeId} (ht : Tryd.prog.underlying t = some (.map kt e)) {z : Value} (hz : (zeroValue e).run Tryd.prog w = .ok z w)
    {key : Value} {kl : Lit} (hkey : keyOf Tryd.prog kt key = some kl) : (Instr.lookup t (.map (some b)) key true).run Tryd.prog w = .ok (.tuple #[(f kl).getD z, .bool (f kl).isSome]) w := by
  obtain ⟨D, h1, h2⟩ := h
  obtain ⟨v, ps, hrun, hR⟩ := h1.look_ok K ht hz (zd := .held z) (zp := []) rfl hkey
  obtain ⟨hs, hv⟩ := h2 kl
  simp only [heldR, Option.some.injEq, Prod.mk.injEq] at hR
  rw [hrun, hs]
  cases hf : f kl with
  | none =>
    rw [hf] at hs
    have := Maps.atKey_of_not_has (D := D) (k := kl) (by simpa using hs) (.held z)
    rw [this] at hR
    have e1 := hR.1
    injection e1 with e1
    rw [e1]
    rfl
  | some u =>
    rw [hv u hf] at hR
    have e1 := hR.1
    injection e1 with e1
    rw [e1]
    rfl
open Classical in
/-- one entry more, or another one. -/
noncomputable def fput (f : Lit → Option Value) (kl : Lit) (val : Value) : Lit → Option Value := fun x => if x = kl then some val else f x
theorem fput_same (f : Lit → Option Value) (kl : Lit) (val : Value) : fput f kl val kl = some val := by unfold fput; rw [if_pos rfl]
theorem fput_other {f : Lit → Option Value} {kl x : Lit} (h : x ≠ kl) (val : Value) : fput f kl val x = f x := by unfold fput; rw [if_neg h]
/-- what is put. -/
theorem MapIs.put {w : World} {kt : TypeId} {b n : Nat} {f : Lit → Option Value} (h : MapIs w kt b n f) (K : Keyed Tryd.prog kt) {t e : TypeId} (ht : Tryd.prog.underlying t = some (.map kt e)) (hn : n < maxLen)
    {key val : Value} {kl : Lit} (hkey : keyOf Tryd.prog kt key = some kl) (hlit : WideAt.IsKeyLit kl) : ∃ w', (Instr.mapUpdate t (.map (some b)) key val).run Tryd.prog w = .ok () w' ∧ MapIs w' kt b (n + 1) (fput f kl val) ∧ w.grownBy w' (some b) := by
  obtain ⟨D, h1, h2⟩ := h
  obtain ⟨w', hrun, h3, h4⟩ := h1.update K ht hn hkey (val := val) (d := .held val) (ps := []) rfl
  refine ⟨w', hrun, ⟨_, h3, fun x => ?_⟩, h4⟩
  by_cases hx : x = kl
  · subst hx
    rw [fput_same]
    refine ⟨by rw [Maps.has_put_same h1.isMap hlit]; rfl, fun v hv z => ?_⟩
    cases hv
    exact Maps.atKey_put_same h1.isMap hlit _ z
  · rw [fput_other hx]
    refine ⟨by rw [Maps.has_put_other hx]; exact (h2 x).1, fun v hv z => ?_⟩
    rw [Maps.atKey_put_other hx]
    exact (h2 x).2 v hv z

/-! ### worlds that are the same but for two maps -/
/-- w' is w but for the blocks bs and bl, and new ones. -/
structure Sk (bs bl : Nat) (w w' : World) : Prop where
  os : w'.os = w.os
  tape : w'.tape = w.tape
  output : w'.output = w.output
  size : w.heap.size ≤ w'.heap.size
  block : ∀ i, i < w.heap.size → i ≠ bs → i ≠ bl → w'.heap[i]? = w.heap[i]?
theorem Sk.refl (bs bl : Nat) (w : World) : Sk bs bl w w := ⟨rfl, rfl, rfl, Nat.le_refl _, fun _ _ _ _ => rfl⟩
theorem Sk.trans {bs bl : Nat} {a b c : World} (h : Sk bs bl a b) (k : Sk bs bl b c) : Sk bs bl a c :=
  ⟨k.os.trans h.os, k.tape.trans h.tape, k.output.trans h.output, Nat.le_trans h.size k.size, fun i hi h1 h2 => (k.block i (Nat.lt_of_lt_of_le hi h.size) h1 h2).trans (h.block i hi h1 h2)⟩
theorem Sk.of {bs bl : Nat} {w w' : World} (h : Below w.heap.size w w') : Sk bs bl w w' := ⟨h.os, h.tape, h.output, h.size, fun i hi _ _ => h.block i hi⟩
theorem Sk.grown {bs bl : Nat} {w w' : World} {r : Nat} (h : w.grownBy w' (some r)) (hr : r = bs ∨ r = bl) : Sk bs bl w w' :=
  ⟨h.os, h.tape, h.output, h.size, fun i hi h1 h2 => h.block i hi (by intro e; injection e with e; omega)⟩
theorem Sk.below {bs bl base : Nat} {w w' : World} (h : Sk bs bl w w') (h1 : base ≤ bs) (h2 : base ≤ bl) (h3 : base ≤ w.heap.size) : Below base w w' :=
  ⟨h.os, h.tape, h.output, h.size, fun i hi => h.block i (by omega) (by omega) (by omega)⟩
theorem Sk.drew {bs bl : Nat} {w w' : World} (h : Sk bs bl w w') : Sk bs bl w w'.drew := ⟨h.os, h.tape, h.output, h.size, h.block⟩
/-- both are maps. -/
def TwoMaps (w : World) (bs bl : Nat) : Prop := (∃ es c, w.heap[bs]? = some (.map es c)) ∧ ∃ es c, w.heap[bl]? = some (.map es c)
theorem not_map {w : World} {p : Addr} {v : Value} (h : w.cell? p = some v) {es : Array MapEntry} {c : Nat} : w.heap[p.block]? ≠ some (.map es c) := by
  intro e
  simp [World.cell?, e] at h
theorem Sk.cell {bs bl : Nat} {w w' : World} (h : Sk bs bl w w') (hm : TwoMaps w bs bl) {p : Addr} {v : Value} (hp : w.cell? p = some v) : w'.cell? p = some v := by
  obtain ⟨⟨es, c, e1⟩, ⟨es', c', e2⟩⟩ := hm
  have hlt := World.block_lt_of_cell? w p hp
  rw [World.cell?_of_block (h.block p.block hlt (fun e => not_map hp (by rw [e]; exact e1)) (fun e => not_map hp (by rw [e]; exact e2)))]
  exact hp
end Go.Proofs.YtnicbkkkecfdpaaDoor
