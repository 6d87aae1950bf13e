/-
  Words that came in, and the laws' own copy of one.
-/
import Derived.Test.YtalbnbcfdpfofaaDoorLetters
import Derived.Test.YtalbnbcfdpfofaaDoorBoolsOf
import Derived.Test.YtalbnbcfdpfofaaDoorWordM
import Derived.Deep.RegionHeld3
namespace Go.Proofs.YtalbnbcfdpfofaaDoor
open Go.ChangeShapes Go.WideShapes Go.ChangeAt Go.RowKit Go.Deep Go.Joins
open Terms

/-- letters as they came in. -/
def LettersW (w : World) (v : Value) (ls : List (List Bool)) : Prop := ∃ (us : List Value) (ao : Option Addr) (cap : Nat), v = .slice ao ls.length cap ∧ (ao = none → cap = 0 ∧ ls = []) ∧ us.length = ls.length ∧ (∀ i, i < ls.length → BoolsW w (us.getD i nilV) (ls.getD i [])) ∧ (ls ≠ [] → ∃ b off, ao = some ⟨b, off, none⟩ ∧ b < w.heap.size ∧ ∀ i, i < ls.length → w.cell? ⟨b, off + i, none⟩ = some (us.getD i nilV))
theorem LettersW.v {w : World} {v : Value} {ls : List (List Bool)} (h : LettersW w v ls) : LettersV w v ls := by
  obtain ⟨us, ao, cap, h1, h2, h3, h4, h5⟩ := h
  exact ⟨us, ao, cap, h1, h2, ⟨h3, fun i hi => (h4 i hi).v⟩, h5⟩
theorem LettersW.below {w w' : World} {v : Value} {ls : List (List Bool)} (h : LettersW w v ls) (hb : Below w.heap.size w w') : LettersW w' v ls := by
  obtain ⟨us, ao, cap, h1, h2, h3, h4, h5⟩ := h
  refine ⟨us, ao, cap, h1, h2, h3, fun i hi => (h4 i hi).below hb, fun hne => ?_⟩
  obtain ⟨b, off, e, hlt, hat⟩ := h5 hne
  exact ⟨b, off, e, Nat.lt_of_lt_of_le hlt hb.size, fun i hi => (hb.cell (p := ⟨b, _, none⟩) hlt).trans (hat i hi)⟩
theorem LettersW.at {w : World} {ao : Option Addr} {cap n : Nat} {ls : List (List Bool)} (h : LettersW w (.slice ao n cap) ls) {i : Nat} (hi : i < ls.length) : ∃ b off, ao = some ⟨b, off, none⟩ ∧ b < w.heap.size ∧ ∃ u, w.cell? ⟨b, off + i, none⟩ = some u ∧ BoolsW w u (ls.getD i []) := by
  obtain ⟨us, ao', cap', hv, _, _, h4, h⟩ := h
  injection hv with e1 e2 e3
  subst e1
  obtain ⟨b, off, e, hlt, hat⟩ := h (by rintro rfl; simp at hi)
  exact ⟨b, off, e, hlt, _, hat i hi, h4 i hi⟩

/-- letters in memory of the call's own. -/
def LettersOwn (w : World) (base : Nat) (v : Value) (ls : List (List Bool)) : Prop :=
  ∃ us : List Value, w.ownsRow base 27 1 v ls.length us ∧ ∀ j, j < ls.length → w.ownsRow base 4 1 (us.getD j nilV) (ls.getD j []).length (bvals (ls.getD j []))
theorem LettersOwn.nil (w : World) (base : Nat) : LettersOwn w base (.slice none 0 0) [] := ⟨[], World.ownsRow_nil _ _ _ _, fun j hj => by simp at hj⟩
theorem LettersOwn.later {w w' : World} {base B : Nat} {v : Value} {ls : List (List Bool)} (h : LettersOwn w base v ls) (hb : Below B w w') (hB : w.heap.size ≤ B) : LettersOwn w' base v ls := by
  obtain ⟨us, h1, h2⟩ := h
  exact ⟨us, owns_later h1 hb hB, fun j hj => owns_later (h2 j hj) hb hB⟩
theorem LettersOwn.snoc {w wa w' : World} {base : Nat} {v v' u : Value} {ts : List (List Bool)} {t : List Bool} {us : List Value}
    (hus : w.ownsRow base 27 1 v ts.length us) (hts : ∀ j, j < ts.length → w.ownsRow base 4 1 (us.getD j nilV) (ts.getD j []).length (bvals (ts.getD j [])))
    (hu : w.ownsRow base 4 1 u t.length (bvals t)) (ha : ∃ o, wa = w.alloc o) (hg : wa.grownBy w' v.ownBlock) (ho : w'.ownsRow base 27 1 v' (ts.length + 1) (us ++ [u])) : LettersOwn w' base v' (ts ++ [t]) := by
  obtain ⟨o, rfl⟩ := ha
  have hl : us.length = ts.length := by simpa using hus.1
  refine ⟨us ++ [u], by simpa using ho, fun j hj => ?_⟩
  by_cases hlt : j < ts.length
  · have h1 := (hts j hlt).alloc o
    have := h1.kept hg (owns_apart (by decide) h1 (hus.alloc o))
    simpa [List.getD_eq_getElem?_getD, List.getElem?_append_left (show j < us.length by omega), List.getElem?_append_left hlt] using this
  · have hj' : j = ts.length := by simp at hj; omega
    subst hj'
    have h1 := hu.alloc o
    have := h1.kept hg (owns_apart (by decide) h1 (hus.alloc o))
    simpa [List.getD_eq_getElem?_getD, ← hl] using this
theorem LettersOwn.lettersV {w : World} {base : Nat} {v : Value} {ls : List (List Bool)} (h : LettersOwn w base v ls) : LettersV w v ls := by
  obtain ⟨us, h1, h2⟩ := h
  have hl : us.length = ls.length := by simpa using h1.1
  exact lettersV_of_owns (us := us) (by rw [hl]; exact h1) ⟨hl, fun i hi => boolsV_of_owns (h2 i hi)⟩

theorem owns_low {w : World} {base : Nat} {e : TypeId} {s n : Nat} {v : Value} {xs : List Value} (h : w.ownsRow base e s v n xs) {p : Addr} (hp : p.block < base) (u : Value) : (w.setCell p u).ownsRow base e s v n xs := by
  obtain ⟨h1, h2⟩ := h
  refine ⟨h1, ?_⟩
  rcases h2 with h2 | ⟨g, cap, cur, hv, hg, hh, r⟩
  · exact .inl h2
  · exact .inr ⟨g, cap, cur, hv, hg, (Below.heap_setCell w p u g (by omega)).trans hh, r⟩
theorem LettersOwn.low {w : World} {base : Nat} {v : Value} {ls : List (List Bool)} (h : LettersOwn w base v ls) {p : Addr} (hp : p.block < base) (u : Value) : LettersOwn (w.setCell p u) base v ls := by
  obtain ⟨us, h1, h2⟩ := h
  exact ⟨us, owns_low h1 hp u, fun j hj => owns_low (h2 j hj) hp u⟩
theorem LettersOwn.mono {w : World} {base base' : Nat} {v : Value} {ls : List (List Bool)} (h : LettersOwn w base v ls) (hb : base' ≤ base) : LettersOwn w base' v ls := by
  obtain ⟨us, h1, h2⟩ := h
  exact ⟨us, owns_mono h1 hb, fun j hj => owns_mono (h2 j hj) hb⟩

set_option maxRecDepth 20000 in
set_option maxHeartbeats 1600000 in
/-- THE CONTRACT OF letters: a copy. -/
theorem letters_any (v : Value) (ls : List (List Bool)) (w : World) (hl : ls.length * 24 ≤ 140737488355328) (hz : ∀ i, i < ls.length → (ls.getD i []).length ≤ 140737488355328) (hT : LettersW w v ls) :
    Calls Tryd.prog 14 #[v] w fun e w' => ∃ v', e = .returned v' ∧ Below w.heap.size w w' ∧ LettersOwn w' w.heap.size v' ls := by
  obtain ⟨ao, cap, rfl⟩ := hT.v.shape
  have HT : Hid (LettersW w (.slice ao ls.length cap) ls) := hT
  have HZ := (show Hid _ from hz)
  obtain ⟨n, hn⟩ : ∃ n, n = ls.length := ⟨_, rfl⟩
  have HN : Hid (n = ls.length) := hn
  rw [← hn] at hl HT ⊢
  obtain ⟨i0, hi, hz0, hz1, hz2⟩ := info_parts infoBools
  clear hT hz hn
  go_enter Tryd.func14, Tryd.ntmps14
  go_wp2
  go_loopw [3, 4] (fun vv i wr => ∃ k : Nat, k ≤ n ∧ i = .int .i64 k ∧ Hid (LettersOwn wr w.heap.size vv (ls.take k)) ∧ Below w.heap.size w wr) (fun _ i _ => n - (intOf i).toNat)
  case atStart => exact ⟨0, Nat.zero_le _, rfl, LettersOwn.nil _ _, Below.refl _ _⟩
  case round =>
    obtain ⟨k, hk, rfl, HO, hbel⟩ := hrel
    by_cases hlt : k < n
    · obtain ⟨b, off, rfl, hblt, u, c0', hO⟩ := HT.out.at (i := k) (by rw [← HN.out]; exact hlt)
      have hzk := HZ.out k (by rw [← HN.out]; exact hlt)
      have HTk : Hid (ls.take (k + 1) = ls.take k ++ [ls.getD k []]) := by
        show _ = _
        rw [List.take_succ_eq_append_getElem (by rw [← HN.out]; exact hlt), List.getD_eq_getElem?_getD, List.getElem?_eq_getElem (by rw [← HN.out]; exact hlt)]; rfl
      generalize ls.getD k [] = p at *
      have c0 := (hbel.cell (p := ⟨b, off + k, none⟩) hblt).trans c0'
      have hops := truthsC_any _ p wr hzk (hO.below hbel)
      obtain ⟨ua, uc, rfl, _⟩ := hO
      have hlk : (ls.take k).length = k := by rw [List.length_take, ← HN.out]; omega
      obtain ⟨us, hus, hts⟩ := HO.out
      have HUS := (show Hid _ from hus)
      have HTS := (show Hid _ from hts)
      have HLK : Hid ((ls.take k).length = k) := hlk
      rw [hlk] at hus
      obtain ⟨pn, hpn⟩ : ∃ pn, pn = p.length := ⟨_, rfl⟩
      have HPN : Hid (pn = p.length) := hpn
      rw [← hpn] at c0 hops
      have hnb := hus.lt
      have h63 : k + 1 ≤ maxLen := by unfold maxLen; omega
      have hkb : (k + 1) * 24 ≤ 140737488355328 := by omega
      have hszw := hbel.size
      clear c0' hts hlk hpn HO
      go_wp2_with (first | (go_at_call 19; refine hops.mono ?_; rintro e w2 ⟨pv, rfl, hb2, ho2⟩; obtain ⟨pa, pc, rfl⟩ := owns_slice ho2; have hus2 := fun o => (owns_later hus hb2 (Nat.le_refl _)).alloc o; have hbase : ∀ o, w.heap.size ≤ (w2.alloc o).heap.size := (fun o => by have := hb2.size; simp; omega)) | (at_builtin; refine wpList_append_own _ rfl (.tmp 11) (.tmp 17) 23 rfl w.heap.size 27 i0 (.slice none 0 0) 1 24 Tryd.underlying23 hi hz0 hz1 hz2 rfl (by decide) _ k us rfl (hus2 _) ⟨w2.heap.size, 0, none⟩ 1 1 [.slice pa pn pc] rfl rfl (cell_one_new _ _ _) (by intro u hu; simp at hu; subst hu; rfl) h63 hkb (hbase _) ?_; intro v' w4 hown' hgrow _))
      have hb4 : Below w.heap.size w w4 := ((hbel.trans (hb2.mono hszw)).alloc (by have := hb2.size; omega) _).grown hgrow (hbase _) (fun q hq => (hnb q hq).1)
      have HO4 : Hid (LettersOwn w4 w.heap.size v' (ls.take (k + 1))) := by
        show LettersOwn _ _ _ _
        rw [HTk.out]
        exact LettersOwn.snoc (owns_later HUS.out hb2 (Nat.le_refl _)) (fun j hj => owns_later (HTS.out j hj) hb2 (Nat.le_refl _)) (owns_mono (by rw [← HPN.out]; exact ho2) hszw) ⟨_, rfl⟩ hgrow (by rw [HLK.out]; exact hown')
      clear hown' hgrow hus2 HUS HTS hus
      go_roundw
      case rel => exact ⟨k + 1, hlt, by go_num, HO4, hb4⟩
      case measure => simp [intOf]; omega
    · have hkn : k = n := by omega
      subst hkn
      have HFin := (show Hid _ from HO.out)
      rw [List.take_of_length_le (by rw [← HN.out]; omega)] at HFin
      clear HO
      go_wp2
      go_ret
      exact ⟨_, rfl, hbel, HFin.out⟩

set_option maxRecDepth 20000 in
theorem cellsBools : Tryd.prog.cellsOf 27 = 1 := by kernel_rfl
set_option maxRecDepth 20000 in
theorem cellsLets : Tryd.prog.cellsOf 23 = 1 := by kernel_rfl
set_option maxRecDepth 20000 in
theorem cellsWord : Tryd.prog.cellsOf 25 = 2 := by kernel_rfl
set_option maxRecDepth 20000 in
theorem bytesBools : Tryd.prog.bytesOf 27 = 24 := by kernel_rfl

section
variable {H : Type} {enc : TypeId × Value → H} {W : World}
/-- nothing in it is too great. -/
def LightW (t : TypeId) (d : DataW H) : Prop := ∀ n ∈ d.weights Tryd.prog t, n ≤ reachBytes
set_option maxRecDepth 20000 in
theorem mem_weights {P : Program} {e : TypeId} {x : DataW H} {n : Nat} (hn : n ∈ x.weights P e) : ∀ {l : List (DataW H)}, x ∈ l → n ∈ DataW.weightsAll P e l
  | y :: l, hx => by
    simp only [DataW.weightsAll, List.mem_append]
    rcases List.mem_cons.1 hx with rfl | hx
    · exact .inl hn
    · exact .inr (mem_weights hn hx)
set_option maxRecDepth 20000 in
theorem LightW.slice {t e : TypeId} {elems spare : List (DataW H)} (hu : Tryd.prog.underlying t = some (.slice e)) (h : LightW t (.slice elems spare)) : (elems.length + spare.length) * Tryd.prog.bytesOf e ≤ reachBytes ∧ ∀ x ∈ elems, LightW e x := by
  refine ⟨h _ (by simp [DataW.weights, hu]), fun x hx n hn => h n ?_⟩
  simp only [DataW.weights, hu, List.mem_cons, List.mem_append]
  exact .inr (.inl (mem_weights hn hx))
set_option maxRecDepth 20000 in
theorem LightW.agg2 {t : TypeId} {f0 f1 : Field} {x0 x1 : DataW H} (hu : Tryd.prog.underlying t = some (.struct #[f0, f1])) (h : LightW t (.agg [x0, x1])) : LightW f0.type x0 ∧ LightW f1.type x1 := by
  refine ⟨fun n hn => h n ?_, fun n hn => h n ?_⟩
  · simp [DataW.weights, hu, DataW.weightsEach, hn]
  · simp [DataW.weights, hu, DataW.weightsEach, hn]
set_option maxRecDepth 20000 in
theorem range_getD {α : Type} (f : Nat → α) (d : α) {n i : Nat} (hi : i < n) : ((List.range n).map f).getD i d = f i := by simp [List.getD_eq_getElem?_getD, hi]

set_option maxRecDepth 20000 in
theorem open_bools_c {fuel : Nat} {v : Value} {d : DataW H} {p : List MemPlace} (hf : DataW.trod enc Tryd.prog W 0 (fun _ => true) true fuel 27 [v] = some (d, p)) (hw : LightW 27 d) : ∃ l, BoolsW W v l ∧ l.length ≤ 140737488355328 := by
  rcases open_slice1 Tryd.underlying27 cellsBool hf with ⟨hcs, hx⟩ | ⟨a, len, cap, m, n, V, D, Pl, hcs, _, hl, hm, hmm, hx, hcell⟩
  · simp at hcs
    subst hcs
    exact ⟨[], ⟨none, 0, rfl, fun _ => ⟨rfl, rfl⟩, fun h => absurd rfl h⟩, by simp⟩
  · simp at hcs
    subst hcs
    simp at hmm
    subst hmm
    rw [(Prod.mk.inj hx).1] at hw
    have hs := (hw.slice Tryd.underlying27).1
    rw [bytesBool] at hs
    simp only [List.length_map, List.length_range, reachBytes] at hs
    refine ⟨(List.range len).map fun i => boolOf (V i), ⟨some a, m, by simp, fun h => by simp at h, fun hne => ?_⟩, by simp; omega⟩
    have hpos : 0 < len := by
      rcases Nat.eq_zero_or_pos len with h0 | h0
      · subst h0; simp at hne
      · exact h0
    obtain ⟨b, off, spot⟩ := a
    have hspot : spot = none := by simpa [Addr.add] using World.cell?_spot (hcell 0 (by omega)).1
    subst hspot
    refine ⟨b, off, rfl, ?_, fun i hi => ?_⟩
    · have := World.block_lt_of_cell? W _ (hcell 0 (by omega)).1
      simpa [Addr.add] using this
    · simp only [List.length_map, List.length_range] at hi
      obtain ⟨c0, t0⟩ := hcell i (by omega)
      rw [add_plain] at c0
      obtain ⟨x0, e0, _⟩ := DataW.trod_bool Tryd.underlying4 t0
      simp at e0
      rw [c0, range_getD _ _ hi, e0]
      rfl

set_option maxRecDepth 20000 in
theorem open_letters_c {fuel : Nat} {v : Value} {d : DataW H} {p : List MemPlace} (hf : DataW.trod enc Tryd.prog W 0 (fun _ => true) true fuel 23 [v] = some (d, p)) (hw : LightW 23 d) : ∃ ls, LettersW W v ls ∧ ls.length * 24 ≤ 140737488355328 ∧ ∀ i, i < ls.length → (ls.getD i []).length ≤ 140737488355328 := by
  rcases open_slice1 Tryd.underlying23 cellsBools hf with ⟨hcs, hx⟩ | ⟨a, len, cap, m, n, V, D, Pl, hcs, _, hl, hm, hmm, hx, hcell⟩
  · simp at hcs
    subst hcs
    exact ⟨[], ⟨[], none, 0, rfl, fun _ => ⟨rfl, rfl⟩, rfl, fun i hi => by simp at hi, fun h => absurd rfl h⟩, by simp, fun i hi => by simp at hi⟩
  · simp at hcs
    subst hcs
    simp at hmm
    subst hmm
    rw [(Prod.mk.inj hx).1] at hw
    obtain ⟨hs, hel⟩ := hw.slice Tryd.underlying23
    rw [bytesBools] at hs
    simp only [List.length_map, List.length_range, reachBytes] at hs
    obtain ⟨f, hff⟩ := choose_lt (n := len) (p := fun i (l : List Bool) => BoolsW W (V i) l ∧ l.length ≤ 140737488355328) (fun i hi => by
      obtain ⟨c0, t0⟩ := hcell i (by omega)
      exact open_bools_c t0 (hel (D i) (by simp only [List.mem_map, List.mem_range]; exact ⟨i, hi, rfl⟩)))
    refine ⟨(List.range len).map f, ⟨(List.range len).map V, some a, m, by simp, fun h => by simp at h, by simp, fun i hi => ?_, fun hne => ?_⟩, by simp; omega, fun i hi => ?_⟩
    · simp only [List.length_map, List.length_range] at hi
      rw [range_getD _ _ hi, range_getD _ _ hi]
      exact (hff i hi).1
    · have hpos : 0 < len := by
        rcases Nat.eq_zero_or_pos len with h0 | h0
        · subst h0; simp at hne
        · exact h0
      obtain ⟨b, off, spot⟩ := a
      have hspot : spot = none := by simpa [Addr.add] using World.cell?_spot (hcell 0 (by omega)).1
      subst hspot
      refine ⟨b, off, rfl, ?_, fun i hi => ?_⟩
      · have := World.block_lt_of_cell? W _ (hcell 0 (by omega)).1
        simpa [Addr.add] using this
      · simp only [List.length_map, List.length_range] at hi
        have c0 := (hcell i (by omega)).1
        rw [add_plain] at c0
        rw [range_getD _ _ hi]
        exact c0
    · simp only [List.length_map, List.length_range] at hi
      rw [range_getD _ _ hi]
      exact (hff i hi).2

/-- no list in it is too long. -/
def LetSz (ls : List (List Bool)) : Prop := ls.length * 24 ≤ 140737488355328 ∧ ∀ i, i < ls.length → (ls.getD i []).length ≤ 140737488355328
set_option maxRecDepth 20000 in
/-- A WORD THAT CAME IN. -/
theorem open_word {base : Nat} {v : Value} {d : DataW H} {p : List MemPlace} {ts : List TypeId} {ds : List (DataW H)} {j : Nat}
    (hv : Value.okWide Tryd.prog W .any base 25 v) (h : DataW.Trod enc Tryd.prog W 0 (fun _ => true) true 25 v d p)
    (hsz : (DataW.weightsEach Tryd.prog ts ds).all (· ≤ reachBytes) = true) (ht : ts[j]? = some 25) (hd : ds[j]? = some d) : ∃ sv lv ss ll, v = .agg #[sv, lv] ∧ LettersW W sv ss ∧ LettersW W lv ll ∧ LetSz ss ∧ LetSz ll := by
  obtain ⟨va, vr, y0, y1, n, rfl, rfl, _, h0, h1⟩ := open_agg2 Tryd.underlying25 (by kernel_rfl) cellsWord hv h
  have hw : LightW 25 (.agg [y0.1, y1.1]) := fun n hn => by
    have := List.all_eq_true.1 hsz _ (DataW.weights_mem_each ht hd n hn)
    simpa using this
  obtain ⟨w0, w1⟩ := hw.agg2 Tryd.underlying25
  obtain ⟨l, h2, h3⟩ := open_letters_c h0 w0
  obtain ⟨r, h4, h5⟩ := open_letters_c h1 w1
  exact ⟨va, vr, l, r, rfl, h2, h4, h3, h5⟩
end

set_option maxHeartbeats 1600000 in
set_option maxRecDepth 20000 in
/-- THE CONTRACT OF words: a copy. -/
theorem words_any (sv lv : Value) (ss ll : List (List Bool)) (w : World) (hzs : LetSz ss) (hzl : LetSz ll) (hS : LettersW w sv ss) (hL : LettersW w lv ll) :
    Calls Tryd.prog 5 #[.agg #[sv, lv]] w fun e w' => ∃ sv' lv', e = .returned (.agg #[sv', lv']) ∧ Below w.heap.size w w' ∧ Hid (LettersV w' sv' ss ∧ LettersV w' lv' ll) := by
  obtain ⟨so, sc, rfl⟩ := hS.v.shape
  obtain ⟨lo, lc, rfl⟩ := hL.v.shape
  obtain ⟨W0, hW0⟩ : ∃ W0, W0 = ((w.alloc (.cells #[.slice so ss.length sc, .slice lo ll.length lc] 25)).alloc (.cells #[.slice none 0 0, .slice none 0 0] 25)) := ⟨_, rfl⟩
  have hA : Below w.heap.size w W0 := by rw [hW0]; exact ((Below.refl _ _).alloc (Nat.le_refl _) _).alloc (by simp) _
  have HSt : Hid (∀ w1, Below W0.heap.size W0 w1 → w1.cell? ⟨w.heap.size, 0, none⟩ = some (.slice so ss.length sc) ∧ w1.cell? ⟨w.heap.size, 1, none⟩ = some (.slice lo ll.length lc) ∧ w1.cell? ⟨w.heap.size + 1, 0, none⟩ = some (.slice none 0 0) ∧ w1.cell? ⟨w.heap.size + 1, 1, none⟩ = some (.slice none 0 0) ∧ w1.frozen? ⟨w.heap.size + 1, 0, none⟩ = false ∧ w1.frozen? ⟨w.heap.size + 1, 1, none⟩ = false ∧ Below W0.heap.size W0 w1) := fun w1 hb => by
    have hz : W0.heap.size = w.heap.size + 1 + 1 := by rw [hW0]; simp
    refine ⟨(hb.cell (p := ⟨w.heap.size, 0, none⟩) (by show w.heap.size < _; omega)).trans ?_, (hb.cell (p := ⟨w.heap.size, 1, none⟩) (by show w.heap.size < _; omega)).trans ?_, (hb.cell (p := ⟨w.heap.size + 1, 0, none⟩) (by show w.heap.size + 1 < _; omega)).trans ?_, (hb.cell (p := ⟨w.heap.size + 1, 1, none⟩) (by show w.heap.size + 1 < _; omega)).trans ?_, (hb.frozen (p := ⟨w.heap.size + 1, 0, none⟩) (by show w.heap.size + 1 < _; omega)).trans ?_, (hb.frozen (p := ⟨w.heap.size + 1, 1, none⟩) (by show w.heap.size + 1 < _; omega)).trans ?_, hb⟩ <;> (rw [hW0]; simp [go_sem])
  have HA1 : Hid (∀ w1, Below W0.heap.size W0 w1 → Calls Tryd.prog 14 #[.slice so ss.length sc] w1 fun e w' => ∃ xo xn xc, e = .returned (.slice xo xn xc) ∧ Below W0.heap.size W0 w' ∧ Below w1.heap.size w1 w' ∧ Hid (LettersOwn w' W0.heap.size (.slice xo xn xc) ss)) := fun w1 hb => by
    have hbw := hA.trans (hb.mono hA.size)
    refine (letters_any _ ss w1 hzs.1 hzs.2 (hS.below hbw)).mono fun e w' ⟨v', h1, h2, h3⟩ => ?_
    obtain ⟨xo, xc, rfl⟩ := h3.lettersV.shape
    exact ⟨xo, _, xc, h1, hb.trans (h2.mono hb.size), h2, h3.mono hb.size⟩
  have HA2 : Hid (∀ w1, Below W0.heap.size W0 w1 → Calls Tryd.prog 14 #[.slice lo ll.length lc] w1 fun e w' => ∃ xo xn xc, e = .returned (.slice xo xn xc) ∧ Below W0.heap.size W0 w' ∧ Below w1.heap.size w1 w' ∧ Hid (LettersOwn w' W0.heap.size (.slice xo xn xc) ll)) := fun w1 hb => by
    have hbw := hA.trans (hb.mono hA.size)
    refine (letters_any _ ll w1 hzl.1 hzl.2 (hL.below hbw)).mono fun e w' ⟨v', h1, h2, h3⟩ => ?_
    obtain ⟨xo, xc, rfl⟩ := h3.lettersV.shape
    exact ⟨xo, _, xc, h1, hb.trans (h2.mono hb.size), h2, h3.mono hb.size⟩
  have hS := HSt.out
  have HW0 : Hid (W0 = ((w.alloc (.cells #[.slice so ss.length sc, .slice lo ll.length lc] 25)).alloc (.cells #[.slice none 0 0, .slice none 0 0] 25))) := hW0
  have hB0 : Below W0.heap.size W0 W0 := Below.refl _ _
  have hq := HA1.out W0.drew hB0.drew
  generalize ss.length = sn at *
  generalize ll.length = ln at *
  clear hzs hzl hL
  go_enter Tryd.func5, Tryd.ntmps5
  go_wp2_with fail
  rw [← hW0]
  clear hW0
  go_region_held3 (fun w' => w'.cell? ⟨w.heap.size, 0, none⟩ = some (.slice so sn sc) ∧ w'.cell? ⟨w.heap.size, 1, none⟩ = some (.slice lo ln lc))
    (first | exact ⟨(hS _ hB0).1, (hS _ hB0).2.1⟩ | exact ⟨(hS _ hB0.drew).1, (hS _ hB0.drew).2.1⟩ | exact ⟨(hS _ hb1).1, (hS _ hb1).2.1⟩ | exact ⟨(hS _ hb2).1, (hS _ hb2).2.1⟩ | (obtain ⟨y0, y1, _⟩ := hS _ hb2; exact ⟨by simp [go_sem, y0], by simp [go_sem, y1]⟩))
    (first | (go_at_call 14; refine hq.mono ?_; rintro e w1 ⟨xo, xn, xc, rfl, hb1, hb1', HX⟩; have hq2 := HA2.out w1 hb1; clear hq) | (go_at_call 14; refine hq2.mono ?_; rintro e w2 ⟨yo, yn, yc, rfl, hb2, hb2', HY⟩; obtain ⟨_, _, g0, g1, g2, g3, _⟩ := hS _ hb2))
  have hz : W0.heap.size = w.heap.size + 1 + 1 := by rw [HW0.out]; simp
  have hbw := hA.trans (hb2.mono hA.size)
  have HL2 : Hid (LettersV ((w2.setCell ⟨w.heap.size + 1, 0, none⟩ (.slice xo xn xc)).setCell ⟨w.heap.size + 1, 1, none⟩ (.slice yo yn yc)) (.slice xo xn xc) ss ∧ LettersV ((w2.setCell ⟨w.heap.size + 1, 0, none⟩ (.slice xo xn xc)).setCell ⟨w.heap.size + 1, 1, none⟩ (.slice yo yn yc)) (.slice yo yn yc) ll) :=
    ⟨((((HX.out.later hb2' (Nat.le_refl _)).low (p := ⟨w.heap.size + 1, 0, none⟩) (by show w.heap.size + 1 < _; omega) _).low (p := ⟨w.heap.size + 1, 1, none⟩) (by show w.heap.size + 1 < _; omega) _)).lettersV, ((HY.out.low (p := ⟨w.heap.size + 1, 0, none⟩) (by show w.heap.size + 1 < _; omega) _).low (p := ⟨w.heap.size + 1, 1, none⟩) (by show w.heap.size + 1 < _; omega) _).lettersV⟩
  have HFin : Hid (Below w.heap.size w ((w2.setCell ⟨w.heap.size + 1, 0, none⟩ (.slice xo xn xc)).setCell ⟨w.heap.size + 1, 1, none⟩ (.slice yo yn yc))) := (hbw.setCell (by simp) _).setCell (by simp) _
  go_wp2_with fail
  refine bodyPost_ret (v := .agg #[.slice xo xn xc, .slice yo yn yc]) ?_ rfl ⟨_, _, rfl, HFin.out, HL2⟩
  have q0 : (w2.setCell ⟨w.heap.size + 1, 0, none⟩ (.slice xo xn xc)).cell? ⟨w.heap.size + 1, 0, none⟩ = some (.slice xo xn xc) := World.cell?_setCell_same' _ _ _ (by rw [g0]; rfl)
  have q1 : ((w2.setCell ⟨w.heap.size + 1, 0, none⟩ (.slice xo xn xc)).setCell ⟨w.heap.size + 1, 1, none⟩ (.slice yo yn yc)).cell? ⟨w.heap.size + 1, 1, none⟩ = some (.slice yo yn yc) := World.cell?_setCell_same' _ _ _ (by simp [go_sem, g1])
  simp [results, Tryd.results5, go_sem, q0, q1]

theorem LetSz.le {ls : List (List Bool)} (h : LetSz ls) : ls.length ≤ 140737488355328 := by have := h.1; omega
set_option maxHeartbeats 800000 in
set_option maxRecDepth 20000 in
theorem sameLetters_true (va vb : Value) (ts : List (List Bool)) (w : World) (hz : LetSz ts) (hA : LettersV w va ts) (hB : LettersV w vb ts) :
    Calls Tryd.prog 10 #[va, vb] w fun e w' => e = .returned (.bool true) ∧ ∃ n, w' = w.drewN n := by
  obtain ⟨ao, ca, rfl⟩ := hA.shape
  obtain ⟨bo, cb, rfl⟩ := hB.shape
  have hl := hz.le
  obtain ⟨n, hn⟩ : ∃ n, ts.length = n := ⟨_, rfl⟩
  rw [hn] at hl hA hB ⊢
  have HA : Hid (LettersV w (.slice ao n ca) ts) := hA
  have HB : Hid (LettersV w (.slice bo n cb) ts) := hB
  have HN : Hid (ts.length = n) := hn
  have HS : Hid (LetSz ts) := hz
  clear hA hB hn hz
  have hnot : ∀ (x : Bool) (w : World), (Op.unary .not (.bool x)).run Tryd.prog w = .ok (.bool (!x)) w := fun _ _ => rfl
  go_enter Tryd.func10, Tryd.ntmps10
  go_wp2
  go_loopw [5] (fun i wr => ∃ k : Nat, k ≤ n ∧ i = .int .i64 k ∧ Hid (∃ q, wr = w.drewN q)) (fun i _ => n - (intOf i).toNat)
  case atStart => exact ⟨0, Nat.zero_le _, rfl, 0, rfl⟩
  case round =>
    obtain ⟨k, hk, rfl, HW⟩ := hrel
    by_cases hlt : k < n
    · have hbw : Below w.heap.size w wr := by obtain ⟨q, hq⟩ := HW.out; rw [hq]; exact below_drewN (Below.refl _ _) q
      obtain ⟨b, off, rfl, hbl, u, c1, o1⟩ := HA.out.at (i := k) (by rw [HN.out]; exact hlt)
      obtain ⟨b', off', rfl, hbl', u', c2, o2⟩ := HB.out.at (i := k) (by rw [HN.out]; exact hlt)
      have d1 := (hbw.cell (p := ⟨b, off + k, none⟩) hbl).trans c1
      have d2 := (hbw.cell (p := ⟨b', off' + k, none⟩) hbl').trans c2
      have h60 := HS.out.2 k (by rw [HN.out]; exact hlt)
      have hso := fun q => sameTruths_true u u' _ (wr.drewN q) h60 ((o1.below hbw).below (below_drewN (Below.refl _ _) q)) ((o2.below hbw).below (below_drewN (Below.refl _ _) q))
      obtain ⟨u1, u2, u3, hu⟩ : ∃ a b c, u = .slice a b c := by obtain ⟨a, c, rfl, _⟩ := o1; exact ⟨_, _, _, rfl⟩
      obtain ⟨u1', u2', u3', hu'⟩ : ∃ a b c, u' = .slice a b c := by obtain ⟨a, c, rfl, _⟩ := o2; exact ⟨_, _, _, rfl⟩
      subst hu hu'
      clear o1 o2 h60 c1 c2 hbw
      go_wp2_with fail
      go_quiet ((go_at_call 9; exact Calls.quiet_of (hso _)))
      go_wp2_with fail
      go_roundw
      case rel => exact ⟨k + 1, by omega, by go_num, by obtain ⟨q, hq⟩ := HW.out; exact ⟨_, by rw [hq, World.drewN_drewN]⟩⟩
      case measure => simp [intOf]; omega
    · go_wp2_with fail
      go_ret
      exact ⟨rfl, HW.out⟩
end Go.Proofs.YtalbnbcfdpfofaaDoor
