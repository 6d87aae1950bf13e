/-
  What TapeKeeps wants: boxes known by their type, lists that are copied; what a crash leaves is read.
-/
import Derived.Test.YtjnobdpjohbdnaaTPre
import Derived.Test.YtjnobdpjohbdnaaTInts
import Derived.Test.YtjnobdpjohbdnaaTRunS
namespace Go.Proofs.Ytjnobdpjohbdnaa
open Go.ChangeShapes Go.WideShapes Go.ChangeAt Go.RowKit Go.Deep

theorem wpList_copy {P : Program} {w : World} {ops : Array Oper} {rest : List Oper} {o : Oper} {a : Act} {Q : Exit → Act → World → Prop} (hgd : o.guard = none) (s x : Operand) (t : TypeId)
    (ho : o.op = .call { callee := .builtin .append, args := #[s, x], argTypes := #[t, t] })
    (base : Nat) (e : TypeId) (i : TypeInfo) (z : Value) (size bytes : Nat) (ht : P.underlying t = some (.slice e)) (hi : P.info? e = some i) (hz : i.zero = some z)
    (hsize : i.size = size) (hby : i.bytes = bytes) (hzs : z.cells.size = size) (hsz : 0 < size) (hs : a.eval s = .slice none 0 0)
    (ao : Option Addr) (m c : Nat) (news : List Value) (hx : a.eval x = .slice ao m c) (hno : ao = none → c = 0 ∧ m = 0) (hl : news.length = m * size) (hnews : ∀ ad, ao = some ad → ∀ j u, news[j]? = some u → w.cell? (ad.add j) = some u) (h1 : ∀ u ∈ news, u.oneCell' = true)
    (h63 : m ≤ maxLen) (hbytes : m * bytes ≤ 140737488355328) (hbase : base ≤ w.heap.size)
    (h : ∀ v' w', w'.ownsRow base e size v' m news → w.grownBy w' none → wpList P ops Q rest (a.put o.dst v') w') : wpList P ops Q (o :: rest) a w := by
  refine wpList_plain hgd fun K hK => ?_
  cases ao with
  | none =>
    obtain ⟨rfl, rfl⟩ := hno rfl
    have : news = [] := List.length_eq_zero_iff.1 (by simpa using hl)
    subst this
    have hrun := run_append_owned_none (P := P) (w := w) base t o.type e i size ht hi (.slice none 0 0) 0 [] (World.ownsRow_nil _ _ _ _)
    unfold Oper.wp
    simp [execOp, ho, resolve, invoke, builtin, hs, hx, hrun, Result.andThen]
    exact hK _ _ (h _ _ (World.ownsRow_nil _ _ _ _) (World.grownBy.refl _ _))
  | some ad =>
    exact wp_append_own w s x t ho base e i z size bytes ht hi hz hsize hby hzs hsz _ _ _ hs (World.ownsRow_nil _ _ _ _) ad m c news hx hl (hnews ad rfl) h1 (by omega) (by simpa using hbytes) hbase (fun v' w' h2 h3 _ => hK _ _ (h v' w' (by simpa using h2) h3))
theorem below_of_grown {w w' : World} (h : w.grownBy w' none) : Below w.heap.size w w' := ⟨h.os, h.tape, h.output, h.size, fun k hk => h.block k hk (by intro e; cases e)⟩
theorem owns_cells {w : World} {base n c : Nat} {a : Option Addr} {e : TypeId} {xs : List Value} (h : w.ownsRow base e 1 (.slice a n c) n xs) : ∀ ad, a = some ad → ∀ j u, xs[j]? = some u → w.cell? (ad.add j) = some u := by
  intro ad e1 j u hj
  rcases h.2 with ⟨e2, _⟩ | ⟨g, cap, cur, e2, _⟩
  · injection e2 with e3 _ _; rw [e1] at e3; cases e3
  · injection e2 with e3 _ _
    rw [e1] at e3
    obtain rfl := Option.some.inj e3
    exact h.cells (g := g) (by rw [e1]; rfl) j u hj
theorem owns_setTy {w : World} {base : Nat} {e t : TypeId} {s n : Nat} {v : Value} {xs : List Value} {p : Addr} {cs : Array Value} {fr : Nat × Nat} (h : w.ownsRow base e s v n xs) (hT : w.heap[p.block]? = some (.cells cs t fr)) (hne : t ≠ e) (u : Value) : (w.setCell p u).ownsRow base e s v n xs := by
  obtain ⟨h1, h2⟩ := h
  refine ⟨h1, ?_⟩
  rcases h2 with h2 | ⟨g, cap, cur, hv, hg, hh, r⟩
  · exact .inl h2
  · refine .inr ⟨g, cap, cur, hv, hg, ?_, r⟩
    have hgp : g ≠ p.block := fun e2 => by
      rw [e2, hT] at hh
      injection hh with hh
      injection hh with _ h3 _
      exact hne h3
    exact (blk_setCell_other w p u g hgp).trans hh
theorem LisO.setTy {w : World} {base : Nat} {v : Value} {rs : List (List Int)} {p : Addr} {cs : Array Value} {fr : Nat × Nat} (h : LisO w base v rs) (hT : w.heap[p.block]? = some (.cells cs 29 fr)) (u : Value) : LisO (w.setCell p u) base v rs := by
  obtain ⟨us, h1, h2, h3⟩ := h
  exact ⟨us, owns_setTy h1 hT (by decide) u, h2, fun i hi => owns_setTy (h3 i hi) hT (by decide) u⟩
theorem LisO.kept {w w' : World} {base base' n : Nat} {v tv : Value} {xs : List Value} {rs : List (List Int)} (h : LisO w base v rs) (ht : w.ownsRow base' 5 1 tv n xs) (hg : w.grownBy w' tv.ownBlock) : LisO w' base v rs := by
  obtain ⟨us, h1, h2, h3⟩ := h
  exact ⟨us, h1.kept hg (owns_apart (by decide) h1 ht), h2, fun i hi => (h3 i hi).kept hg (owns_apart (by decide) (h3 i hi) ht)⟩
/-- the tape's box, by its type too. -/
def TY (w : World) (T : Nat) (v0 v1 : Value) : Prop := TB w T v0 v1 ∧ ∃ cs fr, w.heap[T]? = some (.cells cs 29 fr)
theorem TY.later {w w' : World} {T B : Nat} {v0 v1 : Value} (h : TY w T v0 v1) (hb : Below B w w') (hB : T < B) : TY w' T v0 v1 := by
  obtain ⟨h1, cs, fr, h2⟩ := h
  exact ⟨h1.later hb hB, cs, fr, (hb.block T hB).trans h2⟩
theorem TY.new (w : World) (v0 v1 : Value) : TY (w.alloc (.cells #[v0, v1] 29)) w.heap.size v0 v1 := by
  refine ⟨⟨by simp, ?_, ?_, ?_, ?_⟩, _, _, heap_alloc_new w _⟩ <;> simp [go_sem]
theorem TY.grown {w w' : World} {T base n : Nat} {v0 v1 tv : Value} {xs : List Value} (h : TY w T v0 v1) (ht : w.ownsRow base 5 1 tv n xs) (hg : w.grownBy w' tv.ownBlock) : TY w' T v0 v1 := by
  obtain ⟨⟨h0, h1, h2, h3, h4⟩, cs, fr, h5⟩ := h
  have hne : some T ≠ tv.ownBlock := fun e => by
    rcases ht.2 with ⟨rfl, _⟩ | ⟨g, cap, cur, rfl, _, hg, _⟩
    · cases e
    · simp [Value.ownBlock] at e
      subst e
      rw [h5] at hg
      injection hg with hg
      injection hg with _ h3 _
      exact absurd h3 (by decide)
  have hb := hg.block T h0 hne
  exact ⟨⟨Nat.lt_of_lt_of_le h0 hg.size, hg.cell h1 hne, hg.cell h2 hne, (World.frozen?_of_block (a := ⟨T, 0, none⟩) hb).trans h3, (World.frozen?_of_block (a := ⟨T, 1, none⟩) hb).trans h4⟩, cs, fr, hb.trans h5⟩
theorem TB.set0 {w : World} {T : Nat} {v0 v1 : Value} (h : TB w T v0 v1) (x0 : Value) : TB (w.setCell ⟨T, 0, none⟩ x0) T x0 v1 := by
  obtain ⟨h0, h1, h2, h3, h4⟩ := h
  exact ⟨by simpa using h0, by simp [go_sem, h1], by simp [go_sem, h2], by simp [go_sem, h3], by simp [go_sem, h4]⟩

theorem TY.grownE {w w' : World} {T base n : Nat} {e : TypeId} {v0 v1 tv : Value} {xs : List Value} (h : TY w T v0 v1) (ht : w.ownsRow base e 1 tv n xs) (he : 29 ≠ e) (hg : w.grownBy w' tv.ownBlock) : TY w' T v0 v1 := by
  obtain ⟨⟨h0, h1, h2, h3, h4⟩, cs, fr, h5⟩ := h
  have hne : some T ≠ tv.ownBlock := fun e2 => by
    rcases ht.2 with ⟨rfl, _⟩ | ⟨g, cap, cur, rfl, _, hg, _⟩
    · cases e2
    · simp [Value.ownBlock] at e2
      subst e2
      rw [h5] at hg
      injection hg with hg
      injection hg with _ h3 _
      exact he h3
  have hb := hg.block T h0 hne
  exact ⟨⟨Nat.lt_of_lt_of_le h0 hg.size, hg.cell h1 hne, hg.cell h2 hne, (World.frozen?_of_block (a := ⟨T, 0, none⟩) hb).trans h3, (World.frozen?_of_block (a := ⟨T, 1, none⟩) hb).trans h4⟩, cs, fr, hb.trans h5⟩
theorem ty_set {w : World} {T : Nat} {p : Addr} {u : Value} (hp : p.block = T) (h : ∃ cs fr, w.heap[T]? = some (.cells cs 29 fr)) : ∃ cs fr, (w.setCell p u).heap[T]? = some (.cells cs 29 fr) := by
  obtain ⟨cs, fr, h⟩ := h
  subst hp
  refine ⟨if p.spot.isSome then cs else cs.setIfInBounds p.off u, fr, ?_⟩
  simp only [World.setCell, Array.getElem?_modify]
  rw [if_pos trivial, h]
  rfl
theorem TY.set {w : World} {T : Nat} {v0 v1 : Value} (h : TY w T v0 v1) (x0 x1 : Value) : TY ((w.setCell ⟨T, 0, none⟩ x0).setCell ⟨T, 1, none⟩ x1) T x0 x1 :=
  ⟨h.1.set x0 x1, ty_set rfl (ty_set rfl h.2)⟩
theorem owns_set2 {w : World} {base : Nat} {e : TypeId} {n T : Nat} {v v0 v1 : Value} {xs : List Value} (h : w.ownsRow base e 1 v n xs) (hT : TY w T v0 v1) (hne : 29 ≠ e) (x0 x1 : Value) : ((w.setCell ⟨T, 0, none⟩ x0).setCell ⟨T, 1, none⟩ x1).ownsRow base e 1 v n xs := by
  obtain ⟨cs, fr, h1⟩ := hT.2
  obtain ⟨cs2, fr2, h2⟩ := ty_set (p := ⟨T, 0, none⟩) (u := x0) rfl hT.2
  exact owns_setTy (p := ⟨T, 1, none⟩) (owns_setTy (p := ⟨T, 0, none⟩) h h1 hne x0) h2 hne x1
theorem LisO.set2 {w : World} {base T : Nat} {v v0 v1 : Value} {rs : List (List Int)} (h : LisO w base v rs) (hT : TY w T v0 v1) (x0 x1 : Value) : LisO ((w.setCell ⟨T, 0, none⟩ x0).setCell ⟨T, 1, none⟩ x1) base v rs := by
  obtain ⟨us, h1, h2, h3⟩ := h
  exact ⟨us, owns_set2 h1 hT (by decide) x0 x1, h2, fun i hi => owns_set2 (h3 i hi) hT (by decide) x0 x1⟩

/-- the records that come behind. -/
def msN (ls : List (List Int)) : List (List Int) := (ls.take 8).map recN
theorem msN_length (ls : List (List Int)) : (msN ls).length = min 8 ls.length := by simp [msN]
theorem msN_take {ls : List (List Int)} {k : Nat} (h : k < ls.length) (h8 : k < 8) : (msN ls).take (k + 1) = (msN ls).take k ++ [recN (ls.getD k [])] := by
  rw [List.take_add_one]
  simp [msN, List.getD_eq_getElem?_getD, h, h8]
theorem msN_small (ls : List (List Int)) : ∀ l ∈ msN ls, l.length ≤ 12 ∧ wrC l = 0 := by
  intro l hl
  simp only [msN, List.mem_map] at hl
  obtain ⟨x, _, rfl⟩ := hl
  exact ⟨(recN_ok x).2.1, (recN_ok x).2.2⟩
/-- WHAT IS LEFT BEHIND A CRASH AND A REPAIR. -/
theorem keeps_m {rs ms : List (List Int)} (hr : ∀ l ∈ rs ++ ms, wrC l = 0) {q : Nat} (h1 : (bysN rs).length ≤ q) (h2 : q ≤ (bysN (rs ++ ms)).length) :
    ∃ j r A, rs.length ≤ j ∧ j ≤ (rs ++ ms).length ∧ readL ((bysN (rs ++ ms)).take q) = ((rs ++ ms).take j, r) ∧ r ≤ q ∧ ((bysN (rs ++ ms)).take q).take r = A ∧ A.length = r ∧ readL A = ((rs ++ ms).take j, r) ∧ A = bysN ((rs ++ ms).take j) := by
  obtain ⟨j, hj1, hj2, _⟩ := read_torn (rs ++ ms) hr q h2
  obtain ⟨E, hE⟩ : ∃ E, (bysN (rs ++ ms)).take q = E := ⟨_, rfl⟩
  have hEl : E.length = q := by rw [← hE, List.length_take]; omega
  rw [hE] at hj2 ⊢
  have hrE : (readL E).2 ≤ E.length := run_le E E.length
  have e1 : E = bysN rs ++ (bysN ms).take (q - (bysN rs).length) := by rw [← hE, bysN_append, List.take_append, List.take_of_length_le h1]
  obtain ⟨more, hm1, _⟩ := read_first (fun l hl => hr l (by simp [hl])) ((bysN ms).take (q - (bysN rs).length)) (rs := rs)
  rw [← e1, hj2] at hm1
  have hjr : rs.length ≤ j := by
    have := congrArg List.length hm1
    rw [List.length_take] at this
    have h9 : (rs ++ more).length = rs.length + more.length := List.length_append
    omega
  have hag := read_again E
  obtain ⟨ht1, ht2⟩ := run_take E E.length
  refine ⟨j, (readL E).2, E.take (readL E).2, hjr, hj1, by rw [← hj2], by omega, rfl, by rw [List.length_take]; omega, by rw [hag, ← hj2], ?_⟩
  rw [← hj2]
  exact ht1
end Go.Proofs.Ytjnobdpjohbdnaa
