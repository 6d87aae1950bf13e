/-
  What the keeping laws on words share: holds at a tree; raw words that came in.
-/
import Derived.Test.YtoeagklgfaoejaaDoorWMom
import Derived.Test.YtoeagklgfaoejaaDoorKeepWord
import Derived.Test.YtoeagklgfaoejaaDoorJoined2
import Derived.Test.YtoeagklgfaoejaaDoorGrown3
namespace Go.Proofs.YtoeagklgfaoejaaDoor
open Go.ChangeShapes Go.WideShapes Go.ChangeAt Go.RowKit Go.Deep Go.Joins
open Terms

theorem mocode_ok {m : Nat} {t : List (Int × Int)} {T : Tm} {ss ll : List (List Bool)} (hF : FOk m t T) (hl : t.length ≤ 60) (hm : m ≤ 6) (hW : wcode 3 ss ll = 0) : mocode 3 t ss ll = 0 := by
  unfold mocode
  rw [hF.code hl hm, hW]
  rfl

theorem Raws.up {w w' : World} {v : Value} {rs : List (Int × Int)} (h : Raws w w.heap.size v rs) (hb : Below w.heap.size w w') : Raws w' w'.heap.size v rs := by
  obtain ⟨⟨ao, cap, hv, h1⟩, h2, h3⟩ := h
  refine ⟨⟨ao, cap, hv, fun hne => ?_⟩, h2, h3⟩
  obtain ⟨b, off, ha, hlt, hat⟩ := h1 hne
  exact ⟨b, off, ha, Nat.lt_of_lt_of_le hlt hb.size, hat.below hb hlt⟩

/-- the word that a law has made, as it lies. -/
structure KCtx (w : World) (wb : Nat) (sv lv : Value) (ss ll : List (List Bool)) (W : World) : Prop where
  below : Below w.heap.size w W
  pos : 0 < W.heap.size
  tab : TabAt W
  lt : wb < W.heap.size
  c0 : W.cell? ⟨wb, 0, none⟩ = some sv
  c1 : W.cell? ⟨wb, 1, none⟩ = some lv
  s : LettersV W sv ss
  l : LettersV W lv ll
  ok : WOk ss ll
theorem KCtx.later {w : World} {wb : Nat} {sv lv : Value} {ss ll : List (List Bool)} {W W' : World} (k : KCtx w wb sv lv ss ll W) (hb : Below W.heap.size W W') : KCtx w wb sv lv ss ll W' :=
  ⟨k.below.trans (hb.mono k.below.size), Nat.lt_of_lt_of_le k.pos hb.size, k.tab.below hb k.pos, Nat.lt_of_lt_of_le k.lt hb.size, (hb.cell (p := ⟨wb, 0, none⟩) k.lt).trans k.c0, (hb.cell (p := ⟨wb, 1, none⟩) k.lt).trans k.c1, k.s.below hb, k.l.below hb, k.ok⟩
theorem KCtx.start {w w1 W : World} {sv lv : Value} {ss ll : List (List Bool)} (h : 0 < w.heap.size ∧ TabAt w) (h1 : Below w.heap.size w w1) (hL : LettersV w1 sv ss ∧ LettersV w1 lv ll) (ok : WOk ss ll) (hb : Below (w1.alloc (.cells #[sv, lv] 28)).heap.size (w1.alloc (.cells #[sv, lv] 28)) W) : KCtx w w1.heap.size sv lv ss ll W := by
  have hbA := h1.alloc h1.size (.cells #[sv, lv] 28)
  have k0 : KCtx w w1.heap.size sv lv ss ll (w1.alloc (.cells #[sv, lv] 28)) := ⟨hbA, by simp, h.2.below hbA h.1, by simp, by simp [go_sem], by simp [go_sem], hL.1.below ((Below.refl _ _).alloc (Nat.le_refl _) _), hL.2.below ((Below.refl _ _).alloc (Nat.le_refl _) _), ok⟩
  exact k0.later hb
/-- a formula that a law has grown. -/
structure KFor (W : World) (v : Value) (q : Nat) (t : List (Int × Int)) (T : Tm) (m : Nat) : Prop where
  v : OpsV W v t
  ok : FOk m t T
  len : t.length ≤ 17
  ne : t ≠ []
  many : m ≤ q
theorem KFor.later {W W' : World} {v : Value} {q : Nat} {t : List (Int × Int)} {T : Tm} {m : Nat} (k : KFor W v q t T m) (hb : Below W.heap.size W W') : KFor W' v q t T m := ⟨k.v.below hb, k.ok, k.len, k.ne, k.many⟩

section
variable {H : Type} {enc : TypeId × Value → H} {W : World}
set_option maxRecDepth 20000 in
theorem cellsSpell : Tryd.prog.cellsOf 25 = 2 := by kernel_rfl
set_option maxRecDepth 20000 in
theorem bytesInt' : Tryd.prog.bytesOf 3 = 8 := by kernel_rfl
set_option maxRecDepth 20000 in
theorem open_ints_c {fuel : Nat} {v : Value} {d : DataW H} {p : List MemPlace} (hf : DataW.trod enc Tryd.prog W 0 (fun _ => true) true fuel 23 [v] = some (d, p)) (hw : LightW 23 d) : ∃ l, IntsR W v l := by
  rcases open_slice1 Tryd.underlying23 cellsInt hf with ⟨hcs, hx⟩ | ⟨a, len, cap, m, n, V, D, Pl, hcs, _, hl, hm, hmm, hx, hcell⟩
  · simp at hcs
    subst hcs
    exact ⟨[], ⟨none, 0, rfl, fun h => absurd rfl h⟩, by simp, fun i hi => by simp at hi⟩
  · simp at hcs
    subst hcs
    simp at hmm
    subst hmm
    rw [(Prod.mk.inj hx).1] at hw
    have hs := (hw.slice Tryd.underlying23).1
    rw [bytesInt'] at hs
    simp only [List.length_map, List.length_range, reachBytes] at hs
    have each : ∀ i, i < len → ∃ x0, W.cell? (a.add i) = some (.int .i64 x0) ∧ V i = .int .i64 x0 ∧ I64 x0 := by
      intro i hi
      obtain ⟨c0, t0⟩ := hcell i (by omega)
      obtain ⟨x0, e0, _, w0⟩ := DataW.trod_int Tryd.underlying3 t0
      simp at e0
      exact ⟨x0, by rw [c0, e0], e0, by simpa [I64, Lit.wf, IntKind.min, IntKind.max, IntKind.signed, IntKind.bits] using w0⟩
    refine ⟨(List.range len).map fun i => intOf (V i), ⟨some a, m, by simp, fun hne => ?_⟩, by simp; omega, fun i hi => ?_⟩
    · have hpos : 0 < len := by
        rcases Nat.eq_zero_or_pos len with h0 | h0
        · subst h0; simp at hne
        · exact h0
      obtain ⟨b, off, spot⟩ := a
      have hspot : spot = none := by simpa [Addr.add] using World.cell?_spot (hcell 0 (by omega)).1
      subst hspot
      refine ⟨b, off, rfl, ?_, fun i hi => ?_⟩
      · have := World.block_lt_of_cell? W _ (hcell 0 (by omega)).1
        simpa [Addr.add] using this
      · simp only [List.length_map, List.length_range] at hi
        obtain ⟨x0, c0, e0, _⟩ := each i hi
        rw [add_plain] at c0
        rw [c0, range_getD _ _ hi, e0]
        rfl
    · simp only [List.length_map, List.length_range] at hi
      obtain ⟨x0, _, e0, h0⟩ := each i hi
      rw [range_getD _ _ hi, e0]
      exact h0
set_option maxRecDepth 20000 in
/-- A RAW WORD THAT CAME IN. -/
theorem open_spell {base : Nat} {v : Value} {d : DataW H} {p : List MemPlace} {ts : List TypeId} {ds : List (DataW H)} {j : Nat}
    (hv : Value.okWide Tryd.prog W .any base 25 v) (h : DataW.Trod enc Tryd.prog W 0 (fun _ => true) true 25 v d p)
    (hsz : (DataW.weightsEach Tryd.prog ts ds).all (· ≤ reachBytes) = true) (ht : ts[j]? = some 25) (hd : ds[j]? = some d) : ∃ s0 s1 a b, v = .agg #[s0, s1] ∧ IntsR W s0 a ∧ IntsR W s1 b := by
  obtain ⟨va, vr, y0, y1, n, rfl, rfl, _, h0, h1⟩ := open_agg2 Tryd.underlying25 (by kernel_rfl) cellsSpell hv h
  have hw : LightW 25 (.agg [y0.1, y1.1]) := fun n hn => by
    have := List.all_eq_true.1 hsz _ (DataW.weights_mem_each ht hd n hn)
    simpa using this
  obtain ⟨w0, w1⟩ := hw.agg2 Tryd.underlying25
  obtain ⟨l, h2⟩ := open_ints_c h0 w0
  obtain ⟨r, h4⟩ := open_ints_c h1 w1
  exact ⟨va, vr, l, r, rfl, h2, h4⟩
end
end Go.Proofs.YtoeagklgfaoejaaDoor
