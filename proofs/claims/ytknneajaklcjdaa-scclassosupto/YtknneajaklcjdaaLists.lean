/-
  Lists of lists of numbers as they lie in memory, and the laws' own copy of one.
-/
import Derived.Test.YtknneajaklcjdaaBools
import Derived.Test.YtknneajaklcjdaaIntsOf
import Derived.Deep.RegionHeld3
namespace Go.Proofs.Ytknneajaklcjdaa
open Go.ChangeShapes Go.WideShapes Go.ChangeAt Go.RowKit Go.Deep
open Terms

theorem IntsW.below {w w' : World} {v : Value} {l : List Int} (h : IntsW w v l) (hb : Below w.heap.size w w') : IntsW w' v l := by
  obtain ⟨ao, cap, h1, h0, h⟩ := h
  refine ⟨ao, cap, h1, h0, fun hne => ?_⟩
  obtain ⟨b, off, e, hlt, hat⟩ := h hne
  exact ⟨b, off, e, Nat.lt_of_lt_of_le hlt hb.size, fun i hi => (hb.cell (p := ⟨b, _, none⟩) hlt).trans (hat i hi)⟩
def nilV : Value := .slice none 0 0
/-- values that hold lists. -/
def LisU (w : World) (us : List Value) (ls : List (List Int)) : Prop := us.length = ls.length ∧ ∀ i, i < ls.length → IntsV w (us.getD i nilV) (ls.getD i [])
theorem LisU.below {w w' : World} {us : List Value} {ls : List (List Int)} (h : LisU w us ls) (hb : Below w.heap.size w w') : LisU w' us ls := ⟨h.1, fun i hi => (h.2 i hi).below hb⟩
theorem LisU.nil (w : World) : LisU w [] [] := ⟨rfl, fun i hi => by simp at hi⟩
theorem getD_app {α : Type} (a b : List α) (d : α) (i : Nat) : (a ++ b).getD i d = if i < a.length then a.getD i d else b.getD (i - a.length) d := by
  by_cases h : i < a.length
  · rw [if_pos h]; simp [List.getD_eq_getElem?_getD, List.getElem?_append_left h]
  · rw [if_neg h]; simp [List.getD_eq_getElem?_getD, List.getElem?_append_right (Nat.le_of_not_lt h)]
theorem LisU.append {w : World} {us us' : List Value} {ls ls' : List (List Int)} (h : LisU w us ls) (h' : LisU w us' ls') : LisU w (us ++ us') (ls ++ ls') := by
  refine ⟨by simp [h.1, h'.1], fun i hi => ?_⟩
  rw [getD_app, getD_app, h.1]
  split
  · rename_i hl; exact h.2 i hl
  · rename_i hl; exact h'.2 _ (by simp at hi; omega)
theorem LisU.one {w : World} {us : List Value} {ls : List (List Int)} (h : LisU w us ls) : ∀ u ∈ us, u.oneCell' = true := by
  intro u hu
  obtain ⟨i, hi, rfl⟩ := List.getElem_of_mem hu
  have := h.2 i (by rw [← h.1]; exact hi)
  obtain ⟨ao, cap, hv, _⟩ := this
  rw [List.getD_eq_getElem?_getD, List.getElem?_eq_getElem hi] at hv
  simp only [Option.getD_some] at hv
  rw [hv]; rfl
/-- A VALUE THAT HOLDS LETTERS. -/
def ListsV (w : World) (v : Value) (ls : List (List Int)) : Prop := ∃ us ao cap, v = .slice ao ls.length cap ∧ (ao = none → cap = 0 ∧ ls = []) ∧ LisU w us ls ∧ (ls ≠ [] → ∃ b off, ao = some ⟨b, off, none⟩ ∧ b < w.heap.size ∧ ∀ i, i < ls.length → w.cell? ⟨b, off + i, none⟩ = some (us.getD i nilV))
theorem ListsV.below {w w' : World} {v : Value} {ls : List (List Int)} (h : ListsV w v ls) (hb : Below w.heap.size w w') : ListsV w' v ls := by
  obtain ⟨us, ao, cap, rfl, h0, hu, h⟩ := h
  refine ⟨us, ao, cap, rfl, h0, hu.below hb, fun hne => ?_⟩
  obtain ⟨b, off, rfl, hlt, hat⟩ := h hne
  exact ⟨b, off, rfl, Nat.lt_of_lt_of_le hlt hb.size, fun i hi => (hb.cell (p := ⟨b, _, none⟩) hlt).trans (hat i hi)⟩
theorem ListsV.shape {w : World} {v : Value} {ls : List (List Int)} (h : ListsV w v ls) : ∃ ao cap, v = .slice ao ls.length cap := by
  obtain ⟨_, ao, cap, rfl, _⟩ := h; exact ⟨_, _, rfl⟩
theorem ListsV.at {w : World} {ao : Option Addr} {cap n : Nat} {ls : List (List Int)} (h : ListsV w (.slice ao n cap) ls) {i : Nat} (hi : i < ls.length) : ∃ b off, ao = some ⟨b, off, none⟩ ∧ b < w.heap.size ∧ ∃ u, w.cell? ⟨b, off + i, none⟩ = some u ∧ IntsV w u (ls.getD i []) := by
  obtain ⟨us, ao', cap', hv, _, hu, h⟩ := h
  injection hv with e1 e2 e3
  subst e1
  obtain ⟨b, off, e, hlt, hat⟩ := h (by rintro rfl; simp at hi)
  exact ⟨b, off, e, hlt, _, hat i hi, hu.2 i hi⟩
/-- a row that the call owns holds lists. -/
theorem listsV_of_owns {w : World} {base : Nat} {v : Value} {us : List Value} {ls : List (List Int)} (h : w.ownsRow base 24 1 v us.length us) (hu : LisU w us ls) : ListsV w v ls := by
  have hlen := hu.1
  rcases h.2 with ⟨rfl, h0⟩ | ⟨g, cap, cur, rfl, hb, hg, hnc, hcm, hcs, htake⟩
  · have : ls = [] := List.length_eq_zero_iff.1 (by omega)
    subst this
    exact ⟨us, none, 0, rfl, fun _ => ⟨rfl, rfl⟩, hu, fun h => absurd rfl h⟩
  · refine ⟨us, _, cap, by rw [hlen], fun h => by simp at h, hu, fun _ => ⟨g, 0, rfl, (Array.getElem?_eq_some_iff.1 hg).1, fun i hi => ?_⟩⟩
    rw [Nat.zero_add, h.cellAt i (by omega)]
    simp [List.getD_eq_getElem?_getD, show i < us.length by omega]
theorem infoInts : (Try.prog.info? 24).map (fun i => (i.zero, i.size, i.bytes)) = some (some (.slice none 0 0), 1, 24) := by kernel_rfl
/-- lists as they came in. -/
def ListsW (w : World) (v : Value) (ls : List (List Int)) : Prop := ∃ (us : List Value) (ao : Option Addr) (cap : Nat), v = .slice ao ls.length cap ∧ (ao = none → cap = 0 ∧ ls = []) ∧ us.length = ls.length ∧ (∀ i, i < ls.length → IntsW w (us.getD i nilV) (ls.getD i [])) ∧ (ls ≠ [] → ∃ b off, ao = some ⟨b, off, none⟩ ∧ b < w.heap.size ∧ ∀ i, i < ls.length → w.cell? ⟨b, off + i, none⟩ = some (us.getD i nilV))
theorem ListsW.v {w : World} {v : Value} {ls : List (List Int)} (h : ListsW w v ls) : ListsV w v ls := by
  obtain ⟨us, ao, cap, h1, h2, h3, h4, h5⟩ := h
  exact ⟨us, ao, cap, h1, h2, ⟨h3, fun i hi => (h4 i hi).v⟩, h5⟩
theorem ListsW.below {w w' : World} {v : Value} {ls : List (List Int)} (h : ListsW w v ls) (hb : Below w.heap.size w w') : ListsW w' v ls := by
  obtain ⟨us, ao, cap, h1, h2, h3, h4, h5⟩ := h
  refine ⟨us, ao, cap, h1, h2, h3, fun i hi => (h4 i hi).below hb, fun hne => ?_⟩
  obtain ⟨b, off, e, hlt, hat⟩ := h5 hne
  exact ⟨b, off, e, Nat.lt_of_lt_of_le hlt hb.size, fun i hi => (hb.cell (p := ⟨b, _, none⟩) hlt).trans (hat i hi)⟩
theorem ListsW.at {w : World} {ao : Option Addr} {cap n : Nat} {ls : List (List Int)} (h : ListsW w (.slice ao n cap) ls) {i : Nat} (hi : i < ls.length) : ∃ b off, ao = some ⟨b, off, none⟩ ∧ b < w.heap.size ∧ ∃ u, w.cell? ⟨b, off + i, none⟩ = some u ∧ IntsW w u (ls.getD i []) := by
  obtain ⟨us, ao', cap', hv, _, _, h4, h⟩ := h
  injection hv with e1 e2 e3
  subst e1
  obtain ⟨b, off, e, hlt, hat⟩ := h (by rintro rfl; simp at hi)
  exact ⟨b, off, e, hlt, _, hat i hi, h4 i hi⟩

/-- lists in memory of the call's own. -/
def ListsOwn (w : World) (base : Nat) (v : Value) (ls : List (List Int)) : Prop :=
  ∃ us : List Value, w.ownsRow base 24 1 v ls.length us ∧ ∀ j, j < ls.length → w.ownsRow base 3 1 (us.getD j nilV) (ls.getD j []).length (ivals (ls.getD j []))
theorem ListsOwn.nil (w : World) (base : Nat) : ListsOwn w base (.slice none 0 0) [] := ⟨[], World.ownsRow_nil _ _ _ _, fun j hj => by simp at hj⟩
theorem ListsOwn.later {w w' : World} {base B : Nat} {v : Value} {ls : List (List Int)} (h : ListsOwn w base v ls) (hb : Below B w w') (hB : w.heap.size ≤ B) : ListsOwn w' base v ls := by
  obtain ⟨us, h1, h2⟩ := h
  exact ⟨us, owns_later h1 hb hB, fun j hj => owns_later (h2 j hj) hb hB⟩
theorem ListsOwn.snoc {w wa w' : World} {base : Nat} {v v' u : Value} {ts : List (List Int)} {t : List Int} {us : List Value}
    (hus : w.ownsRow base 24 1 v ts.length us) (hts : ∀ j, j < ts.length → w.ownsRow base 3 1 (us.getD j nilV) (ts.getD j []).length (ivals (ts.getD j [])))
    (hu : w.ownsRow base 3 1 u t.length (ivals t)) (ha : ∃ o, wa = w.alloc o) (hg : wa.grownBy w' v.ownBlock) (ho : w'.ownsRow base 24 1 v' (ts.length + 1) (us ++ [u])) : ListsOwn w' base v' (ts ++ [t]) := by
  obtain ⟨o, rfl⟩ := ha
  have hl : us.length = ts.length := by simpa using hus.1
  refine ⟨us ++ [u], by simpa using ho, fun j hj => ?_⟩
  by_cases hlt : j < ts.length
  · have h1 := (hts j hlt).alloc o
    have := h1.kept hg (owns_apart (by decide) h1 (hus.alloc o))
    simpa [List.getD_eq_getElem?_getD, List.getElem?_append_left (show j < us.length by omega), List.getElem?_append_left hlt] using this
  · have hj' : j = ts.length := by simp at hj; omega
    subst hj'
    have h1 := hu.alloc o
    have := h1.kept hg (owns_apart (by decide) h1 (hus.alloc o))
    simpa [List.getD_eq_getElem?_getD, ← hl] using this
theorem ListsOwn.listsV {w : World} {base : Nat} {v : Value} {ls : List (List Int)} (h : ListsOwn w base v ls) : ListsV w v ls := by
  obtain ⟨us, h1, h2⟩ := h
  have hl : us.length = ls.length := by simpa using h1.1
  exact listsV_of_owns (us := us) (by rw [hl]; exact h1) ⟨hl, fun i hi => intsV_of_owns (h2 i hi)⟩

theorem owns_low {w : World} {base : Nat} {e : TypeId} {s n : Nat} {v : Value} {xs : List Value} (h : w.ownsRow base e s v n xs) {p : Addr} (hp : p.block < base) (u : Value) : (w.setCell p u).ownsRow base e s v n xs := by
  obtain ⟨h1, h2⟩ := h
  refine ⟨h1, ?_⟩
  rcases h2 with h2 | ⟨g, cap, cur, hv, hg, hh, r⟩
  · exact .inl h2
  · exact .inr ⟨g, cap, cur, hv, hg, (Below.heap_setCell w p u g (by omega)).trans hh, r⟩
theorem ListsOwn.low {w : World} {base : Nat} {v : Value} {ls : List (List Int)} (h : ListsOwn w base v ls) {p : Addr} (hp : p.block < base) (u : Value) : ListsOwn (w.setCell p u) base v ls := by
  obtain ⟨us, h1, h2⟩ := h
  exact ⟨us, owns_low h1 hp u, fun j hj => owns_low (h2 j hj) hp u⟩
theorem ListsOwn.mono {w : World} {base base' : Nat} {v : Value} {ls : List (List Int)} (h : ListsOwn w base v ls) (hb : base' ≤ base) : ListsOwn w base' v ls := by
  obtain ⟨us, h1, h2⟩ := h
  exact ⟨us, owns_mono h1 hb, fun j hj => owns_mono (h2 j hj) hb⟩

set_option maxRecDepth 20000 in
set_option maxHeartbeats 1600000 in
/-- THE CONTRACT OF lists: a copy. -/
theorem lists_any (v : Value) (ls : List (List Int)) (w : World) (hl : ls.length * 24 ≤ 140737488355328) (hz : ∀ i, i < ls.length → (ls.getD i []).length * 8 ≤ 140737488355328) (hT : ListsW w v ls) :
    Calls Try.prog 15 #[v] w fun e w' => ∃ v', e = .returned v' ∧ Below w.heap.size w w' ∧ ListsOwn w' w.heap.size v' ls := by
  obtain ⟨ao, cap, rfl⟩ := hT.v.shape
  have HT : Hid (ListsW w (.slice ao ls.length cap) ls) := hT
  have HZ := (show Hid _ from hz)
  obtain ⟨n, hn⟩ : ∃ n, n = ls.length := ⟨_, rfl⟩
  have HN : Hid (n = ls.length) := hn
  rw [← hn] at hl HT ⊢
  obtain ⟨i0, hi, hz0, hz1, hz2⟩ := info_parts infoInts
  clear hT hz hn
  go_enter Try.func15, Try.ntmps15
  go_wp2
  go_loopw [3, 4] (fun vv i wr => ∃ k : Nat, k ≤ n ∧ i = .int .i64 k ∧ Hid (ListsOwn wr w.heap.size vv (ls.take k)) ∧ Below w.heap.size w wr) (fun _ i _ => n - (intOf i).toNat)
  case atStart => exact ⟨0, Nat.zero_le _, rfl, ListsOwn.nil _ _, Below.refl _ _⟩
  case round =>
    obtain ⟨k, hk, rfl, HO, hbel⟩ := hrel
    by_cases hlt : k < n
    · obtain ⟨b, off, rfl, hblt, u, c0', hO⟩ := HT.out.at (i := k) (by rw [← HN.out]; exact hlt)
      have hzk := HZ.out k (by rw [← HN.out]; exact hlt)
      have HTk : Hid (ls.take (k + 1) = ls.take k ++ [ls.getD k []]) := by
        show _ = _
        rw [List.take_succ_eq_append_getElem (by rw [← HN.out]; exact hlt), List.getD_eq_getElem?_getD, List.getElem?_eq_getElem (by rw [← HN.out]; exact hlt)]; rfl
      generalize ls.getD k [] = p at *
      have c0 := (hbel.cell (p := ⟨b, off + k, none⟩) hblt).trans c0'
      have hops := ints_any _ p wr hzk (hO.below hbel)
      obtain ⟨ua, uc, rfl, _⟩ := hO
      have hlk : (ls.take k).length = k := by rw [List.length_take, ← HN.out]; omega
      obtain ⟨us, hus, hts⟩ := HO.out
      have HUS := (show Hid _ from hus)
      have HTS := (show Hid _ from hts)
      have HLK : Hid ((ls.take k).length = k) := hlk
      rw [hlk] at hus
      obtain ⟨pn, hpn⟩ : ∃ pn, pn = p.length := ⟨_, rfl⟩
      have HPN : Hid (pn = p.length) := hpn
      rw [← hpn] at c0 hops
      have hnb := hus.lt
      have h63 : k + 1 ≤ maxLen := by unfold maxLen; omega
      have hkb : (k + 1) * 24 ≤ 140737488355328 := by omega
      have hszw := hbel.size
      clear c0' hts hlk hpn HO
      go_wp2_with (first | (go_at_call 16; refine hops.mono ?_; rintro e w2 ⟨pv, rfl, hb2, ho2⟩; obtain ⟨pa, pc, rfl⟩ := owns_slice ho2; have hus2 := fun o => (owns_later hus hb2 (Nat.le_refl _)).alloc o; have hbase : ∀ o, w.heap.size ≤ (w2.alloc o).heap.size := (fun o => by have := hb2.size; simp; omega)) | (at_builtin; refine wpList_append_own _ rfl (.tmp 11) (.tmp 17) 23 rfl w.heap.size 24 i0 (.slice none 0 0) 1 24 Try.underlying23 hi hz0 hz1 hz2 rfl (by decide) _ k us rfl (hus2 _) ⟨w2.heap.size, 0, none⟩ 1 1 [.slice pa pn pc] rfl rfl (cell_one_new _ _ _) (by intro u hu; simp at hu; subst hu; rfl) h63 hkb (hbase _) ?_; intro v' w4 hown' hgrow _))
      have hb4 : Below w.heap.size w w4 := ((hbel.trans (hb2.mono hszw)).alloc (by have := hb2.size; omega) _).grown hgrow (hbase _) (fun q hq => (hnb q hq).1)
      have HO4 : Hid (ListsOwn w4 w.heap.size v' (ls.take (k + 1))) := by
        show ListsOwn _ _ _ _
        rw [HTk.out]
        exact ListsOwn.snoc (owns_later HUS.out hb2 (Nat.le_refl _)) (fun j hj => owns_later (HTS.out j hj) hb2 (Nat.le_refl _)) (owns_mono (by rw [← HPN.out]; exact ho2) hszw) ⟨_, rfl⟩ hgrow (by rw [HLK.out]; exact hown')
      clear hown' hgrow hus2 HUS HTS hus
      go_roundw
      case rel => exact ⟨k + 1, hlt, by go_num, HO4, hb4⟩
      case measure => simp [intOf]; omega
    · have hkn : k = n := by omega
      subst hkn
      have HFin := (show Hid _ from HO.out)
      rw [List.take_of_length_le (by rw [← HN.out]; omega)] at HFin
      clear HO
      go_wp2
      go_ret
      exact ⟨_, rfl, hbel, HFin.out⟩

end Go.Proofs.Ytknneajaklcjdaa
