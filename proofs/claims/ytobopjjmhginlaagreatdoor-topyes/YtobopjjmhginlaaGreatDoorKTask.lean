import Derived.Test.YtobopjjmhginlaaGreatDoorKeepDesign
import Derived.Test.YtobopjjmhginlaaGreatDoorKeepLetter
import Derived.Test.YtobopjjmhginlaaGreatDoorKeepForm
import Derived.Test.YtobopjjmhginlaaGreatDoorKeepHolds
import Derived.Test.YtobopjjmhginlaaGreatDoorPBegin
namespace Go.Proofs.YtobopjjmhginlaaGreatDoor
open Go.ChangeShapes Go.WideShapes Go.ChangeAt Go.RowKit Go.Deep
open Terms Tm
set_option maxHeartbeats 6400000
set_option maxRecDepth 20000
theorem rcode_guard {r : Ru} (h : rcode 2 r = 0) : r.guard ≠ [] := by
  intro e
  have hx : ∀ t, xcode 2 [] t ≠ 0 := fun t => by
    unfold xcode; rw [if_neg (by decide)]
    have : endsCode (([] : List (Int × Int)).map Prod.fst) ≠ 0 := fun h0 => (ends_ne h0).1 rfl
    rw [if_pos this]; exact this
  unfold rcode at h; rw [e] at h
  have hk : kcode 2 [] true ≠ 0 := by
    unfold kcode; rw [if_neg (hx _)]; exact hx _
  split at h
  · exact absurd h (by decide)
  · exact hk h
structure NilTo (g : Nat) (w w' : World) : Prop where
  size : w.heap.size <= w'.heap.size
  nil : ∀ i v, w.cell? ⟨g, i, none⟩ = some v -> v = .slice none 0 0
  block : ∀ b, b ≠ g -> w'.heap[b]? = w.heap[b]?
theorem NilTo.ne {g : Nat} {w w' : World} (h : NilTo g w w') {b i : Nat} {v : Value} (hc : w.cell? ⟨b, i, none⟩ = some v) (hv : v ≠ .slice none 0 0) : b ≠ g := by
  rintro rfl
  exact hv (h.nil i v hc)
theorem NilTo.cell {g : Nat} {w w' : World} (h : NilTo g w w') {b : Nat} (hb : b ≠ g) (i : Nat) : w'.cell? ⟨b, i, none⟩ = w.cell? ⟨b, i, none⟩ := World.cell?_of_block (h.block b hb)
theorem OpsV.nilTo {g : Nat} {w w' : World} {v : Value} {l : List (Int × Int)} (h : OpsV w v l) (hn : NilTo g w w') : OpsV w' v l := by
  obtain ⟨ao, cap, rfl, h0, h⟩ := h; refine ⟨ao, cap, rfl, h0, fun hne => ?_⟩
  obtain ⟨b, off, rfl, hlt, hat⟩ := h hne; refine ⟨b, off, rfl, Nat.lt_of_lt_of_le hlt hn.size, fun i hi => ?_⟩
  have hb := hn.ne (hat i hi).1 (by simp)
  exact ⟨(hn.cell hb _).trans (hat i hi).1, (hn.cell hb _).trans (hat i hi).2⟩
theorem VarsV.nilTo {g : Nat} {w w' : World} {v : Value} {l : List Vr} (h : VarsV w v l) (hn : NilTo g w w') : VarsV w' v l := SlV.imp h hn.size fun b off i _ _ hi => by
  obtain ⟨h1, h2, h3, h4⟩ := hi; have hb := hn.ne h2 (by simp)
  exact ⟨(hn.cell hb _).trans h1, (hn.cell hb _).trans h2, (hn.cell hb _).trans h3, (hn.cell hb _).trans h4⟩
theorem SetsV.nilTo {g : Nat} {w w' : World} {v : Value} {l : List St} (h : SetsV w v l) (hn : NilTo g w w') : SetsV w' v l := SlV.imp h hn.size fun b off i _ _ hi => by
  obtain ⟨h1, u, h2, h3⟩ := hi; have hb := hn.ne h1 (by simp)
  exact ⟨(hn.cell hb _).trans h1, u, (hn.cell hb _).trans h2, h3.nilTo hn⟩
theorem RulesV.nilTo {g : Nat} {w w' : World} {v : Value} {l : List Ru} (h : RulesV w v l) (hg : ∀ j, j < l.length -> (l.getD j ru0).guard ≠ []) (hn : NilTo g w w') : RulesV w' v l := SlV.imp h hn.size fun b off i _ hi hx => by
  obtain ⟨⟨u, h1, h2⟩, u', h3, h4⟩ := hx
  have hb := hn.ne h1 (by
    obtain ⟨ao, cap, rfl, ⟨_, h0⟩, _⟩ := h2; intro e
    injection e with e _ _
    exact hg i hi (h0 e).2)
  exact ⟨⟨u, (hn.cell hb _).trans h1, h2.nilTo hn⟩, u', (hn.cell hb _).trans h3, h4.nilTo hn⟩
theorem TermsV.nilTo {g : Nat} {w w' : World} {v : Value} {ts : List (List (Int × Int))} (h : TermsV w v ts) (hg : ∀ j, j < ts.length -> ts.getD j [] ≠ []) (hn : NilTo g w w') : TermsV w' v ts := by
  obtain ⟨ao, cap, rfl, h⟩ := h; refine ⟨ao, cap, rfl, fun hne => ?_⟩
  obtain ⟨b, off, rfl, hlt, hat⟩ := h hne; refine ⟨b, off, rfl, Nat.lt_of_lt_of_le hlt hn.size, fun i hi => ?_⟩
  obtain ⟨u, h1, h2⟩ := hat i hi
  have hb := hn.ne h1 (by
    obtain ⟨ao, cap, rfl, ⟨_, h0⟩, _⟩ := h2; intro e
    injection e with e _ _
    exact hg i hi (h0 e).2)
  exact ⟨u, (hn.cell hb _).trans h1, h2.nilTo hn⟩
structure KTaskOk (m : Mo) (l : List (Int × Int)) (mm : Nat) : Prop where
  mo : mcode m = 0
  vars : m.vars.length = 2
  fo : ∃ T, FOk mm l T
  len : l.length <= 59
  many : mm <= 6
theorem KTaskOk.code {m : Mo} {l : List (Int × Int)} {mm : Nat} (h : KTaskOk m l mm) : tkcode m propsL l = 0 := by
  obtain ⟨T, hT⟩ := h.fo; unfold tkcode; rw [props_code h.mo h.vars, if_neg (by simp)]
  exact hT.code (by have := h.len; omega) h.many
end Go.Proofs.YtobopjjmhginlaaGreatDoor
