/-
  The keeping laws' own stocked: a store with some keys.
-/
import Derived.Test.YtncfkpfbjenpjaaUKeep
import Derived.Test.YtncfkpfbjenpjaaUStk
namespace Go.Proofs.Ytncfkpfbjenpjaa
open Go.ChangeShapes Go.WideShapes Go.ChangeAt Go.RowKit Go.Deep

theorem May.sz {lo : List Int} {rs : List (List Int)} (h : May lo rs) : StSz lo rs :=
  ⟨by have := h.size.loose; omega, by have := h.size.runs; omega, fun i hi => by have := mem_flat_le (getD_mem hi []); have := h.size.many; omega⟩
theorem addC_is {lo : List Int} {rs : List (List Int)} {ks : List Int} {k : Int} (h : Stk lo rs ks) (h0 : 0 ≤ k) (h1 : k ≤ 2147483647) (hm : ks.length < 20000) : addC lo rs k = if k ∈ ks then (lo, rs, false, 0) else ((addS lo rs k).1, (addS lo rs k).2, true, 0) := by
  unfold addC
  rw [if_pos h.may, if_pos ⟨h0, h1⟩]
  have e : k ∈ keysL lo rs ↔ k ∈ ks := h.keys.mem_iff
  by_cases hk : k ∈ ks
  · rw [if_pos (e.2 hk), if_pos hk]
  · rw [if_neg (fun h => hk (e.1 h)), if_neg hk, if_neg (by have := h.count; omega)]
section
variable {W : World}
theorem push_h {ops : Array Oper} {rest : List Oper} {o : Oper} {a : Act} {Q : Exit → Act → World → Prop} (y : Int) (Hs : Nat) (hH : W.heap.size = Hs) (hgd : o.guard = none) (s x : Operand)
    (ho : o.op = .call { callee := .builtin .append, args := #[s, x], argTypes := #[22, 22] })
    (base n cap : Nat) (vo : Option Addr) (xs : List Value) (hs : a.eval s = .slice vo n cap) (hown : W.ownsRow base 3 1 (.slice vo n cap) n xs) (hx : a.eval x = .slice (some ⟨Hs, 0, none⟩) 1 1)
    (hsz : (n + 1) * 8 ≤ 140737488355328) (hbase : base ≤ W.heap.size)
    (h : ∀ vo' cap' w', w'.ownsRow base 3 1 (.slice vo' (n + 1) cap') (n + 1) (xs ++ [.int .i64 y]) → Below base W w' → (W.alloc (.cells #[.int .i64 y] 3)).grownBy w' (Value.slice vo n cap).ownBlock → wpList Try.prog ops Q rest (a.put o.dst (.slice vo' (n + 1) cap')) w') : wpList Try.prog ops Q (o :: rest) a (W.alloc (.cells #[.int .i64 y] 3)) := by
  subst hH
  exact push_i y hgd s x ho base n cap vo xs hs hown hx hsz hbase h
end
/-- a store in its box, and the keys that came. -/
def StAt (w1 : World) (b : Nat) (lo : List Int) (rs : List (List Int)) : Prop := ∃ la lc ra rc, Bw w1 b (.slice la lo.length lc) (.slice ra rs.length rc) ∧ IntsN w1 (b + 1) (.slice la lo.length lc) lo ∧ LisX w1 (b + 1) (.slice ra rs.length rc) rs
theorem StAt.later {w1 w2 : World} {b : Nat} {lo : List Int} {rs : List (List Int)} (h : StAt w1 b lo rs) (hb : Below w1.heap.size w1 w2) : StAt w2 b lo rs := by
  obtain ⟨la, lc, ra, rc, h1, h2, h3⟩ := h
  exact ⟨la, lc, ra, rc, h1.later hb, h2.below hb, h3.later hb⟩
/-- the box is written with what Add answered. -/
theorem StAt.put {w1 : World} {b B : Nat} {lo lo' : List Int} {rs rs' : List (List Int)} (h : StAt w1 b lo rs) {la ra : Option Addr} {lc rc : Nat} (hB : b + 1 ≤ B) (hx : IntsN w1 B (.slice la lo'.length lc) lo') (hy : LisX w1 B (.slice ra rs'.length rc) rs') : StAt ((w1.setCell ⟨b, 0, none⟩ (.slice la lo'.length lc)).setCell ⟨b, 1, none⟩ (.slice ra rs'.length rc)) b lo' rs' := by
  obtain ⟨_, _, _, _, ⟨⟨hlt, c0, c1⟩, f0, f1⟩, _, _⟩ := h
  have c1' : (w1.setCell ⟨b, 0, none⟩ (.slice la lo'.length lc)).cell? ⟨b, 1, none⟩ = w1.cell? ⟨b, 1, none⟩ := by simp [go_sem]
  refine ⟨la, lc, ra, rc, ⟨⟨by simpa using hlt, by simp [go_sem, c0], by simp [go_sem, c1]⟩, by simp [go_sem, f0], by simp [go_sem, f1]⟩, ?_, ?_⟩
  · exact ((hx.setBox c0 _).setBox (c1'.trans c1) _).mono hB
  · exact ((hy.setBox (p := ⟨b, 0, none⟩) (by show b < B; omega) c0 _).setBox (p := ⟨b, 1, none⟩) (by show b < B; omega) (c1'.trans c1) _).mono hB
theorem StAt.kept {w1 w2 : World} {b B : Nat} {lo : List Int} {rs : List (List Int)} {row : Option Nat} {la ra : Option Addr} {lc rc : Nat} (h : Bw w1 b (.slice la lo.length lc) (.slice ra rs.length rc)) (hB : b + 1 ≤ B) (hx : IntsN w1 B (.slice la lo.length lc) lo) (hy : LisX w1 B (.slice ra rs.length rc) rs) (hg : w1.grownBy w2 row) (hr : ∀ g, row = some g → g < B ∧ g ≠ b) : StAt w2 b lo rs := by
  obtain ⟨⟨hlt, c0, c1⟩, f0, f1⟩ := h
  have hne : some b ≠ row := fun e => (hr b e.symm).2 rfl
  refine ⟨la, lc, ra, rc, ⟨⟨Nat.lt_of_lt_of_le hlt hg.size, (hg.cell_far ⟨b, 0, none⟩ hlt hne).trans c0, (hg.cell_far ⟨b, 1, none⟩ hlt hne).trans c1⟩, (hg.frozen_far ⟨b, 0, none⟩ hlt hne).trans f0, (hg.frozen_far ⟨b, 1, none⟩ hlt hne).trans f1⟩, (hx.kept hg fun g h => (hr g h).1).mono hB, (hy.kept hg fun g h => (hr g h).1).mono hB⟩
/-- what stocked answers. -/
def StoPost (w : World) (l : List Int) (e : Ending) (w' : World) : Prop :=
  ∃ lo rs ks la lc ra rc ka kc, e = .returned (.tuple #[.agg #[.slice la lo.length lc, .slice ra rs.length rc], .slice ka ks.length kc, .bool true]) ∧ Below w.heap.size w w' ∧ Hid (IntsV w' (.slice la lo.length lc) lo) ∧ Hid (LisV w' (.slice ra rs.length rc) rs) ∧ Hid (IntsV w' (.slice ka ks.length kc) ks) ∧ Hid (Stk lo rs ks) ∧ ks.length ≤ 100 ∧ Hid (∀ k ∈ ks, 0 ≤ k ∧ k < 500) ∧ Hid (ks = [] ↔ l = [])
/-- what holds while keys come. -/
structure StoAt (w wr : World) (l : List Int) (k : Nat) (lo : List Int) (rs : List (List Int)) (ks : List Int) (u : Value) : Prop where
  stk : Stk lo rs ks
  box : StAt wr (w.heap.size + 1) lo rs
  own : OwnI wr (w.heap.size + 2) u ks
  range : ∀ x ∈ ks, 0 ≤ x ∧ x < 500
  many : ks.length ≤ k
  some' : ks = [] ↔ l.take k = []
  res : Bw wr w.heap.size (.slice none 0 0) (.slice none 0 0)
  below : Below w.heap.size w wr
theorem StoAt.start (w : World) (l : List Int) (t : TypeId) : StoAt w ((w.alloc (.cells #[.slice none 0 0, .slice none 0 0] t)).alloc (.cells #[.slice none 0 0, .slice none 0 0] t)) l 0 [] [] [] (.slice none 0 0) := by
  have h1 := Bw.new w (.slice none 0 0) (.slice none 0 0) t
  have h2 := Bw.new (w.alloc (.cells #[.slice none 0 0, .slice none 0 0] t)) (.slice none 0 0) (.slice none 0 0) t
  refine ⟨Stk.nil, ⟨none, 0, none, 0, by simpa using h2, IntsN.nil _ _, LisX.nil _ _⟩, OwnI.nil _ _, by simp, by simp, by simp, h1.later ((Below.refl _ _).alloc (Nat.le_refl _) _), ((Below.refl _ _).alloc (Nat.le_refl _) _).alloc (by simp) _⟩
/-- the store is what Add answered; the keys are the same. -/
theorem StoAt.same {w wr w2 : World} {l : List Int} {k : Nat} {lo : List Int} {rs : List (List Int)} {ks : List Int} {u : Value} {o : Obj} {la ra : Option Addr} {lc rc : Nat} (h : StoAt w wr l k lo rs ks u) (hb : Below wr.heap.size wr w2) (hx : IntsN w2 wr.heap.size (.slice la lo.length lc) lo) (hy : LisX w2 wr.heap.size (.slice ra rs.length rc) rs) (hk : k < l.length) (hne : ks ≠ []) :
    StoAt w (((w2.alloc o).setCell ⟨w.heap.size + 1, 0, none⟩ (.slice la lo.length lc)).setCell ⟨w.heap.size + 1, 1, none⟩ (.slice ra rs.length rc)) l (k + 1) lo rs ks u := by
  have hba : Below w2.heap.size w2 (w2.alloc o) := (Below.refl _ _).alloc (Nat.le_refl _) _
  have hb2 := hb.trans (hba.mono hb.size)
  have hlt : w.heap.size + 1 < wr.heap.size := by obtain ⟨_, _, _, _, h1, _⟩ := h.box; exact h1.1.1
  have hs := hb2.size
  refine ⟨h.stk, (h.box.later hb2).put (B := wr.heap.size) (by omega) (hx.below hba) (hy.later hba), ?_, h.range, by have := h.many; omega, ?_, ?_, ?_⟩
  · exact owns_setCell (owns_setCell (h.own.later hb2 (Nat.le_refl _)) (by show w.heap.size + 1 < _; omega) _) (by show w.heap.size + 1 < _; omega) _
  · refine ⟨fun e => absurd e hne, fun e => ?_⟩
    have := congrArg List.length e
    rw [List.length_take, List.length_nil] at this
    omega
  · obtain ⟨⟨h1, c0, c1⟩, f0, f1⟩ := h.res.later hb2
    exact ⟨⟨by simpa using h1, by simp [go_sem, c0], by simp [go_sem, c1]⟩, by simp [go_sem, f0], by simp [go_sem, f1]⟩
  · exact ((h.below.trans (hb2.mono h.below.size)).setCell (p := ⟨w.heap.size + 1, 0, none⟩) (by simp) _).setCell (p := ⟨w.heap.size + 1, 1, none⟩) (by simp) _
/-- the store is what Add answered, and a key came. -/
theorem StoAt.more {w wr w2 w4 : World} {l : List Int} {k : Nat} {lo lo' : List Int} {rs rs' : List (List Int)} {ks : List Int} {u u' : Value} {o o2 : Obj} {la ra : Option Addr} {lc rc : Nat} {x : Int} (h : StoAt w wr l k lo rs ks u) (hb : Below wr.heap.size wr w2) (hx : IntsN w2 wr.heap.size (.slice la lo'.length lc) lo') (hy : LisX w2 wr.heap.size (.slice ra rs'.length rc) rs') (hk : k < l.length)
    (h0 : 0 ≤ x) (h5 : x < 500) (hs' : Stk lo' rs' (ks ++ [x]))
    (hg : ((((w2.alloc o).setCell ⟨w.heap.size + 1, 0, none⟩ (.slice la lo'.length lc)).setCell ⟨w.heap.size + 1, 1, none⟩ (.slice ra rs'.length rc)).alloc o2).grownBy w4 u.ownBlock)
    (hb4 : Below (w.heap.size + 2) (((w2.alloc o).setCell ⟨w.heap.size + 1, 0, none⟩ (.slice la lo'.length lc)).setCell ⟨w.heap.size + 1, 1, none⟩ (.slice ra rs'.length rc)) w4) (ho : OwnI w4 (w.heap.size + 2) u' (ks ++ [x])) :
    StoAt w w4 l (k + 1) lo' rs' (ks ++ [x]) u' := by
  have hba : Below w2.heap.size w2 (w2.alloc o) := (Below.refl _ _).alloc (Nat.le_refl _) _
  have hb2 := hb.trans (hba.mono hb.size)
  have hlt : w.heap.size + 1 < wr.heap.size := by obtain ⟨_, _, _, _, h1, _⟩ := h.box; exact h1.1.1
  obtain ⟨_, _, _, _, ⟨⟨hl2, c0, c1⟩, f0, f1⟩, _, _⟩ := h.box.later hb2
  have c1' : ((w2.alloc o).setCell ⟨w.heap.size + 1, 0, none⟩ (.slice la lo'.length lc)).cell? ⟨w.heap.size + 1, 1, none⟩ = (w2.alloc o).cell? ⟨w.heap.size + 1, 1, none⟩ := by simp [go_sem]
  have hx3 : IntsN (((w2.alloc o).setCell ⟨w.heap.size + 1, 0, none⟩ (.slice la lo'.length lc)).setCell ⟨w.heap.size + 1, 1, none⟩ (.slice ra rs'.length rc)) wr.heap.size (.slice la lo'.length lc) lo' := ((hx.below hba).setBox c0 _).setBox (c1'.trans c1) _
  have hy3 : LisX (((w2.alloc o).setCell ⟨w.heap.size + 1, 0, none⟩ (.slice la lo'.length lc)).setCell ⟨w.heap.size + 1, 1, none⟩ (.slice ra rs'.length rc)) wr.heap.size (.slice ra rs'.length rc) rs' := ((hy.later hba).setBox (p := ⟨w.heap.size + 1, 0, none⟩) (by show w.heap.size + 1 < _; omega) c0 _).setBox (p := ⟨w.heap.size + 1, 1, none⟩) (by show w.heap.size + 1 < _; omega) (c1'.trans c1) _
  have hb3 : Bw (((w2.alloc o).setCell ⟨w.heap.size + 1, 0, none⟩ (.slice la lo'.length lc)).setCell ⟨w.heap.size + 1, 1, none⟩ (.slice ra rs'.length rc)) (w.heap.size + 1) (.slice la lo'.length lc) (.slice ra rs'.length rc) := ⟨⟨by simpa using hl2, by simp [go_sem, c0], by simp [go_sem, c1]⟩, by simp [go_sem, f0], by simp [go_sem, f1]⟩
  have hr3 : Bw (((w2.alloc o).setCell ⟨w.heap.size + 1, 0, none⟩ (.slice la lo'.length lc)).setCell ⟨w.heap.size + 1, 1, none⟩ (.slice ra rs'.length rc)) w.heap.size (.slice none 0 0) (.slice none 0 0) := by
    obtain ⟨⟨h1, c0, c1⟩, f0, f1⟩ := h.res.later hb2
    exact ⟨⟨by simpa using h1, by simp [go_sem, c0], by simp [go_sem, c1]⟩, by simp [go_sem, f0], by simp [go_sem, f1]⟩
  have hbw : Below w.heap.size w (((w2.alloc o).setCell ⟨w.heap.size + 1, 0, none⟩ (.slice la lo'.length lc)).setCell ⟨w.heap.size + 1, 1, none⟩ (.slice ra rs'.length rc)) := ((h.below.trans (hb2.mono h.below.size)).setCell (p := ⟨w.heap.size + 1, 0, none⟩) (by simp) _).setCell (p := ⟨w.heap.size + 1, 1, none⟩) (by simp) _
  generalize ((w2.alloc o).setCell ⟨w.heap.size + 1, 0, none⟩ (.slice la lo'.length lc)).setCell ⟨w.heap.size + 1, 1, none⟩ (.slice ra rs'.length rc) = w3 at *
  have hal : Below w3.heap.size w3 (w3.alloc o2) := (Below.refl _ _).alloc (Nat.le_refl _) _
  refine ⟨hs', StAt.kept (B := wr.heap.size) (hb3.later hal) (by omega) (hx3.below hal) (hy3.later hal) hg (fun g hgg => ?_), ho, ?_, by simp; have := h.many; omega, ?_, ?_, hbw.trans (hb4.mono (by omega))⟩
  · have := h.own.lt g hgg
    omega
  · intro y hy
    rcases List.mem_append.1 hy with hy | hy
    · exact h.range y hy
    · simp only [List.mem_singleton] at hy; subst hy; exact ⟨h0, h5⟩
  · refine ⟨fun e => by simp at e, fun e => ?_⟩
    have := congrArg List.length e
    rw [List.length_take, List.length_nil] at this
    omega
  · obtain ⟨⟨h1, c0, c1⟩, f0, f1⟩ := hr3
    exact ⟨⟨Nat.lt_of_lt_of_le h1 hb4.size, (hb4.cell (p := ⟨w.heap.size, 0, none⟩) (by show w.heap.size < _; omega)).trans c0, (hb4.cell (p := ⟨w.heap.size, 1, none⟩) (by show w.heap.size < _; omega)).trans c1⟩, (hb4.frozen (p := ⟨w.heap.size, 0, none⟩) (by show w.heap.size < _; omega)).trans f0, (hb4.frozen (p := ⟨w.heap.size, 1, none⟩) (by show w.heap.size < _; omega)).trans f1⟩

set_option maxHeartbeats 3200000 in
set_option maxRecDepth 20000 in
/-- THE CONTRACT OF stocked. -/
theorem stocked_any (v : Value) (l : List Int) (w : World) (hV : IntsR w v l) : Calls Try.prog 8 #[v] w (StoPost w l) := by
  obtain ⟨ao, cap, rfl⟩ := hV.v.shape
  obtain ⟨n, hn⟩ : ∃ n, l.length = n := ⟨_, rfl⟩
  have H : Hid (IntsR w (.slice ao l.length cap) l) := hV
  have hl := hV.size
  have HN : Hid (l.length = n) := hn
  obtain ⟨W0, hW0⟩ : ∃ W0, W0 = ((w.alloc (.cells #[.slice none 0 0, .slice none 0 0] 25)).alloc (.cells #[.slice none 0 0, .slice none 0 0] 25)) := ⟨_, rfl⟩
  have HS0 : Hid (StoAt w W0 l 0 [] [] [] (.slice none 0 0)) := by rw [hW0]; exact StoAt.start w l _
  rw [hn] at hl H ⊢
  clear hV hn
  go_enter Try.func8, Try.ntmps8
  go_wp2_with fail
  rw [← hW0]
  clear hW0
  go_wp2_with fail
  go_loopw [6, 7, 8, 9, 10, 11] (fun u i z1 z2 z3 z4 wr => ∃ k : Nat, k ≤ n ∧ k ≤ 100 ∧ i = .int .i64 k ∧ (∃ ka kc kn, u = .slice ka kn kc ∧ Hid (∃ lo rs ks, ks.length = kn ∧ StoAt w wr l k lo rs ks (.slice ka kn kc)))) (fun _ i _ _ _ _ _ => n - (intOf i).toNat)
  case atStart => exact ⟨0, Nat.zero_le _, Nat.zero_le _, rfl, none, 0, 0, rfl, [], [], [], rfl, HS0.out⟩
  case round =>
    obtain ⟨k, hk, hk1, rfl, ka, kc, kn, rfl, HA⟩ := hrel
    obtain ⟨lo, rs, ks, hkn, hA⟩ := HA.out
    obtain ⟨la, lc, ra, rc, hbx, hxN, hyX⟩ := id hA.box
    obtain ⟨⟨hbl, c0, c1⟩, f0, f1⟩ := id hbx
    have hk100 := hA.many
    by_cases hlt : k < n
    · by_cases hlt1 : k < 100
      · have hlt2 : k < l.length := by rw [HN.out]; exact hlt
        obtain ⟨b, off, rfl, hb, _, hat⟩ := H.out.v.at hlt2
        have d1 := (hA.below.cell (p := ⟨b, off + k, none⟩) hb).trans (hat k hlt2)
        have hpk := fun w1 => picked_is (l.getD k 0) 500 w1 (H.out.range k hlt2) (by decide) (by decide)
        obtain ⟨hp0, hp5⟩ := pk_range (n := l.getD k 0) (m := 500) (by decide)
        clear hat
        generalize l.getD k 0 = raw at *
        generalize pk raw 500 = x at *
        have hcA := addC_is hA.stk hp0 (by omega) (by omega)
        have hadd := add_any lo rs x la ra lc rc wr hA.stk.may.sz hxN.v hyX.v
        have hhas := fun w1 (h : Below wr.heap.size wr w1) => khas_any ka kc ks x w1 (by omega) (by rw [hkn]; exact (hA.own.v).below h)
        rw [hkn] at hhas
        have HHas : Hid (∀ w1, Below wr.heap.size wr w1 → Calls Try.prog 12 #[.slice ka kn kc, .int .i64 x] w1 fun e w' => e = .returned (.bool (decide (x ∈ ks))) ∧ w' = w1) := hhas
        have HSt : Hid (StoAt w wr l k lo rs ks (.slice ka kn kc)) := hA
        have hi1 : (k : Int) < 100 := by omega
        by_cases hxk : x ∈ ks
        · rw [hcA, if_pos hxk] at hadd
          have hh2 : ∀ w1, Below wr.heap.size wr w1 → Calls Try.prog 12 #[.slice ka kn kc, .int .i64 x] w1 fun e w' => e = .returned (.bool true) ∧ w' = w1 := fun w1 h => (hhas w1 h).mono fun e w' ⟨h1, h2⟩ => ⟨by rw [h1, decide_eq_true hxk], h2⟩
          have HH2 : Hid (∀ w1, Below wr.heap.size wr w1 → Calls Try.prog 12 #[.slice ka kn kc, .int .i64 x] w1 fun e w' => e = .returned (.bool true) ∧ w' = w1) := hh2
          have HNx : Hid (∀ (w2 : World) (o : Obj) (la' ra' : Option Addr) (lc' rc' : Nat), Below wr.heap.size wr w2 → IntsN w2 wr.heap.size (.slice la' lo.length lc') lo → LisX w2 wr.heap.size (.slice ra' rs.length rc') rs → StoAt w (((w2.alloc o).setCell ⟨w.heap.size + 1, 0, none⟩ (.slice la' lo.length lc')).setCell ⟨w.heap.size + 1, 1, none⟩ (.slice ra' rs.length rc')) l (k + 1) lo rs ks (.slice ka kn kc)) := fun w2 o la' ra' lc' rc' h1 h2 h3 => hA.same h1 h2 h3 hlt2 (by rintro rfl; simp at hxk)
          have HB5 : Hid (∀ w2, Below wr.heap.size wr w2 → Bw w2 (w.heap.size + 1) (.slice la lo.length lc) (.slice ra rs.length rc)) := fun w2 h => hbx.later h
          unfold AdPost at hadd
          simp only at hadd
          have HKn : Hid (ks.length = kn) := hkn
          generalize lo.length = m at *
          generalize rs.length = nr at *
          clear hcA hhas hh2 hA HA hxN hyX hxk hbx hkn HHas HSt
          go_wp2_with (first | (go_at_call 9; refine (hpk _).mono ?_; rintro e w1 ⟨rfl, rfl⟩) | (go_at_call 13; refine hadd.mono ?_; rintro e w2 ⟨zo, zc, uo, uc, rfl, hb2, hv2, hr2⟩; obtain ⟨hbn, hcn⟩ := Bc.arg w2 (.slice zo m zc) (.slice uo nr uc) 25; have hb2n := hb2.trans (hbn.mono hb2.size); have hh := HH2.out _ hb2n; obtain ⟨_, t0, t1⟩ := hcn; obtain ⟨⟨_, u0, u1⟩, v0, v1⟩ := HB5.out _ hb2n) | (go_at_call 12; refine hh.mono ?_; rintro e w3 ⟨rfl, rfl⟩))
          have hst := HNx.out w2 (.cells #[.slice zo m zc, .slice uo nr uc] 25) zo uo zc uc hb2 hv2.out hr2.out
          have HSS : Hid (StoAt w (((w2.alloc (.cells #[.slice zo m zc, .slice uo nr uc] 25)).setCell ⟨w.heap.size + 1, 0, none⟩ (.slice zo m zc)).setCell ⟨w.heap.size + 1, 1, none⟩ (.slice uo nr uc)) l (k + 1) lo rs ks (.slice ka kn kc)) := hst
          clear hst
          go_roundw
          case rel => exact ⟨k + 1, by omega, by omega, by go_num, ka, kc, kn, rfl, lo, rs, ks, HKn.out, HSS.out⟩
          case measure => simp [intOf]; omega
        · rw [hcA, if_neg hxk] at hadd
          have hh2 : ∀ w1, Below wr.heap.size wr w1 → Calls Try.prog 12 #[.slice ka kn kc, .int .i64 x] w1 fun e w' => e = .returned (.bool false) ∧ w' = w1 := fun w1 h => (hhas w1 h).mono fun e w' ⟨h1, h2⟩ => ⟨by rw [h1, decide_eq_false hxk], h2⟩
          have HH2 : Hid (∀ w1, Below wr.heap.size wr w1 → Calls Try.prog 12 #[.slice ka kn kc, .int .i64 x] w1 fun e w' => e = .returned (.bool false) ∧ w' = w1) := hh2
          have hstk := hA.stk.add hp0 (by omega) hxk (by omega)
          obtain ⟨⟨lo', rs'⟩, hls⟩ : ∃ r, addS lo rs x = r := ⟨_, rfl⟩
          rw [hls] at hadd hstk
          have HNx : Hid (∀ (w2 w4 : World) (o o2 : Obj) (la' ra' : Option Addr) (lc' rc' : Nat) (u' : Value), Below wr.heap.size wr w2 → IntsN w2 wr.heap.size (.slice la' lo'.length lc') lo' → LisX w2 wr.heap.size (.slice ra' rs'.length rc') rs' → ((((w2.alloc o).setCell ⟨w.heap.size + 1, 0, none⟩ (.slice la' lo'.length lc')).setCell ⟨w.heap.size + 1, 1, none⟩ (.slice ra' rs'.length rc')).alloc o2).grownBy w4 (Value.slice ka kn kc).ownBlock → Below (w.heap.size + 2) (((w2.alloc o).setCell ⟨w.heap.size + 1, 0, none⟩ (.slice la' lo'.length lc')).setCell ⟨w.heap.size + 1, 1, none⟩ (.slice ra' rs'.length rc')) w4 → OwnI w4 (w.heap.size + 2) u' (ks ++ [x]) → StoAt w w4 l (k + 1) lo' rs' (ks ++ [x]) u') := fun w2 w4 o o2 la' ra' lc' rc' u' h1 h2 h3 h4 h5 h6 => hA.more h1 h2 h3 hlt2 hp0 hp5 hstk h4 h5 h6
          have HB5 : Hid (∀ w2, Below wr.heap.size wr w2 → Bw w2 (w.heap.size + 1) (.slice la lo.length lc) (.slice ra rs.length rc)) := fun w2 h => hbx.later h
          have HOw : Hid (∀ (w2 : World) (o : Obj) (u v : Value), Below wr.heap.size wr w2 → (((w2.alloc o).setCell ⟨w.heap.size + 1, 0, none⟩ u).setCell ⟨w.heap.size + 1, 1, none⟩ v).ownsRow (w.heap.size + 2) 3 1 (.slice ka kn kc) kn (ivals ks)) := fun w2 o u v h => by
            have h1 := hA.own.later (h.trans (((Below.refl _ _).alloc (Nat.le_refl _) o).mono h.size)) (Nat.le_refl _)
            have h2 := owns_setCell (owns_setCell h1 (p := ⟨w.heap.size + 1, 0, none⟩) (by show w.heap.size + 1 < _; omega) u) (p := ⟨w.heap.size + 1, 1, none⟩) (by show w.heap.size + 1 < _; omega) v
            rw [hkn] at h2
            exact h2
          have HSn : Hid (∀ (w4 : World) (v : Value), w4.ownsRow (w.heap.size + 2) 3 1 v (kn + 1) (ivals ks ++ [.int .i64 x]) → OwnI w4 (w.heap.size + 2) v (ks ++ [x])) := fun w4 v h => OwnI.snoc (by rw [hkn]; exact h)
          have HKn : Hid ((ks ++ [x]).length = kn + 1) := by show _ = _; simp [hkn]
          have HSz : Hid (∀ w2, Below wr.heap.size wr w2 → w.heap.size + 2 ≤ w2.heap.size) := fun w2 h => by have := h.size; omega
          unfold AdPost at hadd
          simp only at hadd
          have hkn100 : kn ≤ 100 := by omega
          generalize lo'.length = m' at *
          generalize rs'.length = nr' at *
          generalize lo.length = m at *
          generalize rs.length = nr at *
          clear hcA hhas hh2 hA HA hxN hyX hxk hbx hkn HHas HSt hls hstk
          go_wp2_with (first | (go_at_call 9; refine (hpk _).mono ?_; rintro e w1 ⟨rfl, rfl⟩) | (go_at_call 13; refine hadd.mono ?_; rintro e w2 ⟨zo, zc, uo, uc, rfl, hb2, hv2, hr2⟩; obtain ⟨hbn, hcn⟩ := Bc.arg w2 (.slice zo m' zc) (.slice uo nr' uc) 25; have hb2n := hb2.trans (hbn.mono hb2.size); have hh := HH2.out _ hb2n; obtain ⟨_, t0, t1⟩ := hcn; obtain ⟨⟨_, u0, u1⟩, v0, v1⟩ := HB5.out _ hb2n; have hro := HOw.out w2 (.cells #[.slice zo m' zc, .slice uo nr' uc] 25) (.slice zo m' zc) (.slice uo nr' uc) hb2; have hsz2 := HSz.out _ hb2n) | (go_at_call 12; refine hh.mono ?_; rintro e w3 ⟨rfl, rfl⟩) | (at_builtin; refine push_h x (w2.heap.size + 1) (by simp) rfl _ _ rfl (w.heap.size + 2) kn kc ka _ rfl hro rfl (by omega) (by simpa using hsz2) ?_; intro vo4 cap4 w4 ho4 hb4 hg4; have hst := HNx.out w2 w4 _ _ zo uo zc uc _ hb2 hv2.out hr2.out hg4 hb4 (HSn.out _ _ ho4); have HSS : Hid (StoAt w w4 l (k + 1) lo' rs' (ks ++ [x]) (.slice vo4 (kn + 1) cap4)) := hst; clear hst ho4 hb4 hg4 hro))
          go_roundw
          case rel => exact ⟨k + 1, by omega, by omega, by go_num, vo4, cap4, kn + 1, rfl, lo', rs', ks ++ [x], HKn.out, HSS.out⟩
          case measure => simp [intOf]; omega
      · have hi1 : ¬ (k : Int) < 100 := by omega
        have hch := fun w1 (h : Below wr.heap.size wr w1) => check_any lo rs la ra lc rc w1 hA.stk.may.sz (hxN.v.below h) (hyX.v.below h)
        rw [sC_ok hA.stk.may] at hch
        have HCh : Hid (∀ w1, Below wr.heap.size wr w1 → Calls Try.prog 16 #[.agg #[.slice la lo.length lc, .slice ra rs.length rc]] w1 fun e w' => e = .returned (.int .i64 0) ∧ Below w1.heap.size w1 w') := hch
        have HSt : Hid (∀ w1, Below wr.heap.size wr w1 → w1.cell? ⟨w.heap.size + 1, 0, none⟩ = some (.slice la lo.length lc) ∧ w1.cell? ⟨w.heap.size + 1, 1, none⟩ = some (.slice ra rs.length rc)) := fun w1 h => (hbx.later h).1.2
        have HRs : Hid (∀ w1, Below wr.heap.size wr w1 → Bw w1 w.heap.size (.slice none 0 0) (.slice none 0 0)) := fun w1 h => hA.res.later h
        have HFin : Hid (∀ w1, Below wr.heap.size wr w1 → StoPost w l (.returned (.tuple #[.agg #[.slice la lo.length lc, .slice ra rs.length rc], .slice ka kn kc, .bool true])) ((w1.setCell ⟨w.heap.size, 0, none⟩ (.slice la lo.length lc)).setCell ⟨w.heap.size, 1, none⟩ (.slice ra rs.length rc))) := fun w1 h => by
          obtain ⟨⟨h1, r0, r1⟩, _, _⟩ := hA.res.later h
          have r1' : (w1.setCell ⟨w.heap.size, 0, none⟩ (.slice la lo.length lc)).cell? ⟨w.heap.size, 1, none⟩ = w1.cell? ⟨w.heap.size, 1, none⟩ := by simp [go_sem]
          subst hkn
          refine ⟨lo, rs, ks, la, lc, ra, rc, ka, kc, rfl, ?_, ((hxN.v.below h).setBox r0 _).setBox (r1'.trans r1) _, ?_, ?_, hA.stk, by omega, hA.range, ?_⟩
          · exact ((hA.below.trans (h.mono hA.below.size)).setCell (p := ⟨w.heap.size, 0, none⟩) (by simp) _).setCell (p := ⟨w.heap.size, 1, none⟩) (by simp) _
          · exact (((hyX.later h).setBox (p := ⟨w.heap.size, 0, none⟩) (by show w.heap.size < _; omega) r0 _).setBox (p := ⟨w.heap.size, 1, none⟩) (by show w.heap.size < _; omega) (r1'.trans r1) _).v
          · exact (show OwnI _ (w.heap.size + 2) _ ks from owns_setCell (owns_setCell (hA.own.later h (Nat.le_refl _)) (by show w.heap.size < _; omega) _) (by show w.heap.size < _; omega) _).v
          · rw [hA.some']
            refine ⟨fun e => ?_, fun e => by rw [e]; simp⟩
            have := congrArg List.length e
            rw [List.length_take, List.length_nil, HN.out] at this
            exact List.length_eq_zero_iff.1 (by rw [HN.out]; omega)
        have hB0 : Below wr.heap.size wr wr := Below.refl _ _
        generalize lo.length = m at *
        generalize rs.length = nr at *
        clear hA HA hxN hyX hch hbx hkn
        go_wp2_with fail
        go_region_held3 (fun w' => w'.cell? ⟨w.heap.size + 1, 0, none⟩ = some (.slice la m lc) ∧ w'.cell? ⟨w.heap.size + 1, 1, none⟩ = some (.slice ra nr rc))
          (first | exact HSt.out _ hb12 | exact HSt.out _ hB0.drew | exact HSt.out _ hB0 | (obtain ⟨y0, y1⟩ := HSt.out _ hb12; exact ⟨by simp [go_sem, y0], by simp [go_sem, y1]⟩))
          (first
            | (go_at_call 16; refine (HCh.out _ hB0.drew).mono ?_; rintro e w2 ⟨rfl, hb2⟩; have hb12 := hB0.drew.trans (hb2.mono hB0.drew.size); obtain ⟨⟨_, r0, r1⟩, g0, g1⟩ := HRs.out _ hb12))
        go_wp2_with fail
        refine bodyPost_ret (v := .tuple #[.agg #[.slice la m lc, .slice ra nr rc], .slice ka kn kc, .bool true]) ?_ rfl (HFin.out _ hb12)
        simp [results, Try.results8, go_sem, r0, r1]
    · have hkl : k = n := by omega
      have hch := fun w1 (h : Below wr.heap.size wr w1) => check_any lo rs la ra lc rc w1 hA.stk.may.sz (hxN.v.below h) (hyX.v.below h)
      rw [sC_ok hA.stk.may] at hch
      have HCh : Hid (∀ w1, Below wr.heap.size wr w1 → Calls Try.prog 16 #[.agg #[.slice la lo.length lc, .slice ra rs.length rc]] w1 fun e w' => e = .returned (.int .i64 0) ∧ Below w1.heap.size w1 w') := hch
      have HSt : Hid (∀ w1, Below wr.heap.size wr w1 → w1.cell? ⟨w.heap.size + 1, 0, none⟩ = some (.slice la lo.length lc) ∧ w1.cell? ⟨w.heap.size + 1, 1, none⟩ = some (.slice ra rs.length rc)) := fun w1 h => (hbx.later h).1.2
      have HRs : Hid (∀ w1, Below wr.heap.size wr w1 → Bw w1 w.heap.size (.slice none 0 0) (.slice none 0 0)) := fun w1 h => hA.res.later h
      have HFin : Hid (∀ w1, Below wr.heap.size wr w1 → StoPost w l (.returned (.tuple #[.agg #[.slice la lo.length lc, .slice ra rs.length rc], .slice ka kn kc, .bool true])) ((w1.setCell ⟨w.heap.size, 0, none⟩ (.slice la lo.length lc)).setCell ⟨w.heap.size, 1, none⟩ (.slice ra rs.length rc))) := fun w1 h => by
        obtain ⟨⟨h1, r0, r1⟩, _, _⟩ := hA.res.later h
        have r1' : (w1.setCell ⟨w.heap.size, 0, none⟩ (.slice la lo.length lc)).cell? ⟨w.heap.size, 1, none⟩ = w1.cell? ⟨w.heap.size, 1, none⟩ := by simp [go_sem]
        subst hkn
        refine ⟨lo, rs, ks, la, lc, ra, rc, ka, kc, rfl, ?_, ((hxN.v.below h).setBox r0 _).setBox (r1'.trans r1) _, ?_, ?_, hA.stk, by omega, hA.range, ?_⟩
        · exact ((hA.below.trans (h.mono hA.below.size)).setCell (p := ⟨w.heap.size, 0, none⟩) (by simp) _).setCell (p := ⟨w.heap.size, 1, none⟩) (by simp) _
        · exact (((hyX.later h).setBox (p := ⟨w.heap.size, 0, none⟩) (by show w.heap.size < _; omega) r0 _).setBox (p := ⟨w.heap.size, 1, none⟩) (by show w.heap.size < _; omega) (r1'.trans r1) _).v
        · exact (show OwnI _ (w.heap.size + 2) _ ks from owns_setCell (owns_setCell (hA.own.later h (Nat.le_refl _)) (by show w.heap.size < _; omega) _) (by show w.heap.size < _; omega) _).v
        · rw [hA.some']
          refine ⟨fun e => ?_, fun e => by rw [e]; simp⟩
          have := congrArg List.length e
          rw [List.length_take, List.length_nil, HN.out] at this
          exact List.length_eq_zero_iff.1 (by rw [HN.out]; omega)
      have hB0 : Below wr.heap.size wr wr := Below.refl _ _
      generalize lo.length = m at *
      generalize rs.length = nr at *
      clear hA HA hxN hyX hch hbx hkn
      go_wp2_with fail
      go_region_held3 (fun w' => w'.cell? ⟨w.heap.size + 1, 0, none⟩ = some (.slice la m lc) ∧ w'.cell? ⟨w.heap.size + 1, 1, none⟩ = some (.slice ra nr rc))
        (first | exact HSt.out _ hb12 | exact HSt.out _ hB0.drew | exact HSt.out _ hB0 | (obtain ⟨y0, y1⟩ := HSt.out _ hb12; exact ⟨by simp [go_sem, y0], by simp [go_sem, y1]⟩))
        (first
          | (go_at_call 16; refine (HCh.out _ hB0.drew).mono ?_; rintro e w2 ⟨rfl, hb2⟩; have hb12 := hB0.drew.trans (hb2.mono hB0.drew.size); obtain ⟨⟨_, r0, r1⟩, g0, g1⟩ := HRs.out _ hb12))
      go_wp2_with fail
      refine bodyPost_ret (v := .tuple #[.agg #[.slice la m lc, .slice ra nr rc], .slice ka kn kc, .bool true]) ?_ rfl (HFin.out _ hb12)
      simp [results, Try.results8, go_sem, r0, r1]
end Go.Proofs.Ytncfkpfbjenpjaa
