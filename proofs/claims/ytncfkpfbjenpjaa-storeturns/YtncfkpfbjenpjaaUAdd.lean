/-
  store.copies, store.withRun.
-/
import Derived.Test.YtncfkpfbjenpjaaUCheck2
import Derived.Test.YtncfkpfbjenpjaaURef4
namespace Go.Proofs.Ytncfkpfbjenpjaa
open Go.ChangeShapes Go.WideShapes Go.ChangeAt Go.RowKit Go.Deep

/-- numbers in memory from here on. -/
def IntsN (w : World) (B : Nat) (v : Value) (l : List Int) : Prop := IntsV w v l ∧ ∀ b off n c, v = .slice (some ⟨b, off, none⟩) n c → l ≠ [] → B ≤ b
theorem IntsN.v {w : World} {B : Nat} {v : Value} {l : List Int} (h : IntsN w B v l) : IntsV w v l := h.1
theorem OwnI.n {w : World} {B : Nat} {v : Value} {l : List Int} (h : OwnI w B v l) : IntsN w B v l := by
  refine ⟨h.v, fun b off n c e hne => ?_⟩
  rcases h.2 with ⟨e0, h0⟩ | ⟨g, cap, cur, e0, hg, _⟩
  · rw [e] at e0; cases e0
  · rw [e] at e0
    injection e0 with e1 _ _
    injection e1 with e1
    injection e1 with e1
    omega
theorem IntsN.mono {w : World} {B B' : Nat} {v : Value} {l : List Int} (h : IntsN w B v l) (hb : B' ≤ B) : IntsN w B' v l := ⟨h.1, fun b off n c e hne => Nat.le_trans hb (h.2 b off n c e hne)⟩
theorem IntsN.below {w w' : World} {B : Nat} {v : Value} {l : List Int} (h : IntsN w B v l) (hb : Below w.heap.size w w') : IntsN w' B v l := ⟨h.1.below hb, h.2⟩
theorem IntsN.nil (w : World) (B : Nat) : IntsN w B (.slice none 0 0) [] := ⟨intsV_nil w, fun _ _ _ _ _ h => absurd rfl h⟩
theorem IntsV.setBox {w : World} {v : Value} {l : List Int} {p : Addr} {a : Option Addr} {n c : Nat} (h : IntsV w v l) (hc : w.cell? p = some (.slice a n c)) (u : Value) : IntsV (w.setCell p u) v l := by
  obtain ⟨ao, cap, rfl, h0, h⟩ := h
  refine ⟨ao, cap, rfl, h0, fun hne => ?_⟩
  obtain ⟨b, off, rfl, hlt, hat⟩ := h hne
  refine ⟨b, off, rfl, by simpa using hlt, fun i hi => ?_⟩
  have hne : (⟨b, off + i, none⟩ : Addr) ≠ p := by
    rintro rfl
    rw [hat i hi] at hc
    cases hc
  rw [World.cell?_setCell_other _ _ _ _ hne.symm]
  exact hat i hi
theorem IntsN.setBox {w : World} {B : Nat} {v : Value} {l : List Int} {p : Addr} {a : Option Addr} {n c : Nat} (h : IntsN w B v l) (hc : w.cell? p = some (.slice a n c)) (u : Value) : IntsN (w.setCell p u) B v l := ⟨h.1.setBox hc u, h.2⟩
/-- what lies from here on is not touched where a row below is written. -/
theorem IntsN.kept {w w' : World} {B : Nat} {v : Value} {l : List Int} {row : Option Nat} (h : IntsN w B v l) (hg : w.grownBy w' row) (hr : ∀ g, row = some g → g < B) : IntsN w' B v l := by
  obtain ⟨⟨ao, cap, rfl, h0, h1⟩, h2⟩ := h
  refine ⟨⟨ao, cap, rfl, h0, fun hne => ?_⟩, h2⟩
  obtain ⟨b, off, rfl, hlt, hat⟩ := h1 hne
  have hB := h2 b off _ _ rfl hne
  refine ⟨b, off, rfl, Nat.lt_of_lt_of_le hlt hg.size, fun i hi => ?_⟩
  rw [hg.cell_far ⟨b, off + i, none⟩ hlt (fun e => by have := hr b e.symm; omega)]
  exact hat i hi
/-- a list of lists in a row of its own, all in memory from here on. -/
def LisX (w : World) (base : Nat) (v : Value) (rs : List (List Int)) : Prop := ∃ us, w.ownsRow base 22 1 v rs.length us ∧ LisP (IntsN w base) us rs
theorem LisX.v {w : World} {base : Nat} {v : Value} {rs : List (List Int)} (h : LisX w base v rs) : LisV w v rs := by
  obtain ⟨us, h1, h2, h3⟩ := h
  exact lisV_of_owns h1 ⟨h2, fun i hi => (h3 i hi).v⟩
theorem LisO.x {w : World} {base : Nat} {v : Value} {rs : List (List Int)} (h : LisO w base v rs) : LisX w base v rs := by
  obtain ⟨us, h1, h2, h3⟩ := h
  exact ⟨us, h1, h2, fun i hi => (show OwnI w base _ _ from h3 i hi).n⟩
theorem LisX.mono {w : World} {base base' : Nat} {v : Value} {rs : List (List Int)} (h : LisX w base v rs) (hb : base' ≤ base) : LisX w base' v rs := by
  obtain ⟨us, h1, h2, h3⟩ := h
  exact ⟨us, owns_mono h1 hb, h2, fun i hi => (h3 i hi).mono hb⟩
theorem LisX.nil (w : World) (base : Nat) : LisX w base (.slice none 0 0) [] := (LisO.nil w base).x
theorem LisX.later {w w' : World} {base : Nat} {v : Value} {rs : List (List Int)} (h : LisX w base v rs) (hb : Below w.heap.size w w') : LisX w' base v rs := by
  obtain ⟨us, h1, h2, h3⟩ := h
  exact ⟨us, owns_later h1 hb (Nat.le_refl _), h2, fun i hi => (h3 i hi).below hb⟩
theorem LisX.setBox {w : World} {base : Nat} {v : Value} {rs : List (List Int)} {p : Addr} {a : Option Addr} {n c : Nat} (h : LisX w base v rs) (hp : p.block < base) (hc : w.cell? p = some (.slice a n c)) (u : Value) : LisX (w.setCell p u) base v rs := by
  obtain ⟨us, h1, h2, h3⟩ := h
  exact ⟨us, owns_setCell h1 hp u, h2, fun i hi => (h3 i hi).setBox hc u⟩
theorem LisX.kept {w w' : World} {base : Nat} {v : Value} {rs : List (List Int)} {row : Option Nat} (h : LisX w base v rs) (hg : w.grownBy w' row) (hr : ∀ g, row = some g → g < base) : LisX w' base v rs := by
  obtain ⟨us, h1, h2, h3⟩ := h
  refine ⟨us, h1.kept hg ?_, h2, fun i hi => (h3 i hi).kept hg hr⟩
  rcases h1.2 with ⟨rfl, _⟩ | ⟨g, cap, cur, rfl, hg2, _⟩
  · exact .inl rfl
  · refine .inr fun e => ?_
    have := hr g (by rw [← e]; rfl)
    omega
section
variable {W : World}
/-- one more list, that lies where it lay. -/
theorem push_v {ops : Array Oper} {rest : List Oper} {o : Oper} {a : Act} {Q : Exit → Act → World → Prop} (u : Value) (rs : List (List Int)) (l : List Int) (w0 : World) (hgd : o.guard = none) (s x : Operand)
    (ho : o.op = .call { callee := .builtin .append, args := #[s, x], argTypes := #[23, 23] })
    (base n cap : Nat) (vo : Option Addr) (hs : a.eval s = .slice vo n cap) (hL : LisO W base (.slice vo n cap) rs) (B : Nat) (hBb : B ≤ base) (hu : IntsN w0 B u l) (hw0 : w0.heap.size ≤ base) (hb0 : Below w0.heap.size w0 W) (hx : a.eval x = .slice (some ⟨W.heap.size, 0, none⟩) 1 1)
    (hsz : (n + 1) * 24 ≤ 140737488355328) (hbase : base ≤ W.heap.size)
    (h : ∀ vo' cap' w', LisX w' B (.slice vo' (n + 1) cap') (rs ++ [l]) → Below base W w' → wpList Try.prog ops Q rest (a.put o.dst (.slice vo' (n + 1) cap')) w') : wpList Try.prog ops Q (o :: rest) a (W.alloc (.cells #[u] 22)) := by
  obtain ⟨i0, hi, hz0, hz1, hz2⟩ := info_parts infoInts
  obtain ⟨us, h1, h2, h3⟩ := id hL
  have hn := hL.len
  subst hn
  obtain ⟨uo, uc, rfl⟩ := hu.v.shape
  refine wpList_append_own _ hgd s x 23 ho base 22 i0 (.slice none 0 0) 1 24 Try.underlying23 hi hz0 hz1 hz2 rfl (by decide) (.slice vo rs.length cap) rs.length us hs (h1.alloc _) ⟨W.heap.size, 0, none⟩ 1 1 [.slice uo l.length uc] hx rfl (one_cell _ _ _) (by simp [Value.oneCell']) (by unfold maxLen; omega) hsz (Nat.le_trans hbase (by simp)) ?_
  intro v' w4 hown' hgrow _
  obtain ⟨a4, c4, rfl⟩ := owns_slice hown'
  have hb4 : Below base W w4 := ((Below.refl base W).alloc hbase _).grown hgrow (Nat.le_trans hbase (by simp)) (fun q hq => (h1.lt q hq).1)
  refine h a4 c4 w4 ⟨us ++ [.slice uo l.length uc], by rw [List.length_append]; exact owns_mono hown' hBb, by simp [h2], fun i hi => ?_⟩ hb4
  rw [getD_app, getD_app, h2]
  by_cases hlt : i < rs.length
  · rw [if_pos hlt, if_pos hlt]
    exact (show OwnI w4 base _ _ from World.ownsRow.kept (World.ownsRow.alloc (h3 i hlt) _) hgrow (owns_apart (by decide) (World.ownsRow.alloc (h3 i hlt) (.cells #[.slice uo l.length uc] 22)) (h1.alloc _))).n.mono hBb
  · rw [if_neg hlt, if_neg hlt]
    have : i = rs.length := by simp at hi; omega
    subst this
    rw [Nat.sub_self]
    exact hu.below (hb0.trans (hb4.mono hw0))
end

set_option maxHeartbeats 800000 in
set_option maxRecDepth 20000 in
/-- THE CONTRACT OF copies. -/
theorem copies_any (ra : Option Addr) (rc : Nat) (rs : List (List Int)) (w : World) (hl : rs.length ≤ 20000) (hr : ∀ i, i < rs.length → (rs.getD i []).length ≤ 20000) (hR : LisV w (.slice ra rs.length rc) rs) :
    Calls Try.prog 20 #[.slice ra rs.length rc] w fun e w' => ∃ yo yc, e = .returned (.slice yo rs.length yc) ∧ Below w.heap.size w w' ∧ Hid (LisO w' w.heap.size (.slice yo rs.length yc) rs) := by
  obtain ⟨i0, hi, hz0, hz1, hz2⟩ := info_parts infoInts
  obtain ⟨n, hn⟩ : ∃ n, rs.length = n := ⟨_, rfl⟩
  have H : Hid (LisV w (.slice ra rs.length rc) rs) := hR
  have HN : Hid (rs.length = n) := hn
  have HCo : Hid (∀ (i : Nat) (v : Value) (w1 : World), i < rs.length → IntsV w1 v (rs.getD i []) → Calls Try.prog 19 #[v] w1 fun e w' => ∃ ao cap, e = .returned (.slice ao (rs.getD i []).length cap) ∧ Below w1.heap.size w1 w' ∧ Hid (w'.ownsRow w1.heap.size 3 1 (.slice ao (rs.getD i []).length cap) (rs.getD i []).length (ivals (rs.getD i [])))) := fun i v w1 h1 h2 => copied_any v _ w1 (by have := hr i h1; omega) h2
  have HTk : Hid (∀ k, k < rs.length → rs.take (k + 1) = rs.take k ++ [rs.getD k []]) := fun k h => take_get h []
  have HAll : Hid (rs.take rs.length = rs) := List.take_length
  rw [hn] at hl H HAll ⊢
  clear hR hn hr
  have hmk : ∀ w1 : World, (Instr.makeSlice 23 (.int .i64 0) (.int .i64 ((n : Int) + 1))).run Try.prog w1 = .ok (.slice (some ⟨w1.heap.size, 0, none⟩) 0 (n + 1)) (w1.alloc (.cells (madeCells #[.slice none 0 0] (n + 1)) 22)) := fun w1 => by
    have := run_make (P := Try.prog) w1 23 22 i0 (.slice none 0 0) Try.underlying23 hi hz0 .i64 .i64 0 ((n : Int) + 1) (Int.le_refl _) (by omega) (by rw [hz2]; omega) (by omega)
    have e : ((n : Int) + 1).toNat = n + 1 := by omega
    rw [e] at this
    simpa [hz1, Value.cells] using this
  have hO0 : LisO (w.alloc (.cells (madeCells #[.slice none 0 0] (n + 1)) 22)) w.heap.size (.slice (some ⟨w.heap.size, 0, none⟩) 0 (n + 1)) [] := ⟨[], World.ownsRow_made w _ (n + 1) (Nat.le_refl _) (by unfold maxLen; omega) (by simp [size_madeCells]), rfl, fun i hi => by simp at hi⟩
  have HO0 : Hid (LisO (w.alloc (.cells (madeCells #[.slice none 0 0] (n + 1)) 22)) w.heap.size (.slice (some ⟨w.heap.size, 0, none⟩) 0 (n + 1)) []) := hO0
  have HB0 : Hid (Below w.heap.size w (w.alloc (.cells (madeCells #[.slice none 0 0] (n + 1)) 22))) := (Below.refl _ _).alloc (Nat.le_refl _) _
  clear hO0
  go_enter Try.func20, Try.ntmps20
  go_wp2
  go_loopw [3, 5, 12] (fun u z i wr => ∃ k : Nat, k ≤ n ∧ i = .int .i64 k ∧ (∃ yo yc, u = .slice yo k yc ∧ Hid (LisO wr w.heap.size (.slice yo k yc) (rs.take k))) ∧ Below w.heap.size w wr) (fun _ _ i _ => n - (intOf i).toNat)
  case atStart => exact ⟨0, Nat.zero_le _, rfl, ⟨_, _, rfl, HO0⟩, HB0.out⟩
  case round =>
    obtain ⟨k, hk, rfl, ⟨yo, yc, rfl, HO⟩, hB⟩ := hrel
    by_cases hlt : k < n
    · have hlt2 : k < rs.length := by rw [HN.out]; exact hlt
      obtain ⟨b, off, rfl, hb, u, c1, hu⟩ := H.out.at hlt2
      obtain ⟨uo, uc, rfl⟩ := hu.shape
      have c2 := (hB.cell (p := ⟨b, off + k, none⟩) hb).trans c1
      have hco := HCo.out k _ wr hlt2 (hu.below hB)
      have HTk2 : Hid (rs.take (k + 1) = rs.take k ++ [rs.getD k []]) := HTk.out k hlt2
      clear hu c1
      generalize rs.getD k [] = r at *
      have HRow : Hid (∀ (w1 : World) (b1 : Nat) (v : Value), w1.ownsRow b1 3 1 v r.length (ivals r) → OwnI w1 b1 v r) := fun w1 b1 v h => h
      generalize hrr : r.length = rn at *
      clear hrr
      have hsz := hB.size
      go_wp2_with (first | (go_at_call 19; refine hco.mono ?_; rintro e w4 ⟨zo, zc, rfl, hb4, HZ⟩; have hl4 := HO.out.later hb4 (Nat.le_refl _); have hB4 := hB.trans (hb4.mono hsz)) | (at_builtin; refine push_l (.slice zo rn zc) (rs.take k) r rfl _ _ rfl w.heap.size k yc yo rfl hl4 ((HRow.out _ _ _ HZ.out).mono hsz) rfl (by omega) hB4.size ?_; intro vo' cap' w5 hl5 hb5; rw [← HTk2.out] at hl5; have HL5 : Hid (LisO w5 w.heap.size (.slice vo' (k + 1) cap') (rs.take (k + 1))) := hl5; have hB5 := hB4.trans hb5; clear hl5 hl4))
      go_roundw
      case rel => exact ⟨k + 1, by omega, by go_num, ⟨vo', cap', rfl, HL5⟩, hB5⟩
      case measure => simp [intOf]; omega
    · obtain rfl : k = n := by omega
      rw [HAll.out] at HO
      go_wp2
      go_ret
      exact ⟨yo, yc, rfl, hB, HO⟩

set_option maxHeartbeats 1600000 in
set_option maxRecDepth 20000 in
/-- THE CONTRACT OF withRun. -/
theorem withRun_any (B : Nat) (ra uo : Option Addr) (rc uc : Nat) (rs : List (List Int)) (run : List Int) (w : World) (hl : rs.length ≤ 20000) (hf : rs.flatten.length + run.length ≤ 20000) (hr : ∀ r ∈ rs, r.Pairwise (· < ·)) (hd : (rs.flatten ++ run).Nodup) (hR : LisV w (.slice ra rs.length rc) rs) (hBw : B ≤ w.heap.size) (hU : IntsN w B (.slice uo run.length uc) (up run)) :
    Calls Try.prog 22 #[.slice ra rs.length rc, .slice uo run.length uc] w fun e w' => ∃ yo yc, e = .returned (.slice yo (runsAdd rs run).length yc) ∧ Below w.heap.size w w' ∧ Hid (LisX w' B (.slice yo (runsAdd rs run).length yc) (runsAdd rs run)) := by
  obtain ⟨n, hn⟩ : ∃ n, rs.length = n := ⟨_, rfl⟩
  obtain ⟨m, hm⟩ : ∃ m, run.length = m := ⟨_, rfl⟩
  have HN : Hid (rs.length = n) := hn
  have HM : Hid (run.length = m) := hm
  have H : Hid (LisV w (.slice ra rs.length rc) rs) := hR
  have HU : Hid (IntsN w B (.slice uo run.length uc) (up run)) := hU
  have hstl := stay_le rs rs.length run.length
  have hst : stayAt rs run.length = stay rs rs.length run.length := rfl
  obtain ⟨st, hstE⟩ : ∃ st, stayAt rs run.length = st := ⟨_, rfl⟩
  have hst2 : st ≤ n := by rw [← hstE, hst, ← hn]; exact hstl
  have HS0 : Hid (stay rs rs.length run.length = st) := hstE
  have hlast : tog (rs.drop st ++ [up run]) = up ((rs.drop st).flatten ++ run) := tog_add hr hd st
  have hra : runsAdd rs run = rs.take st ++ [tog (rs.drop st ++ [up run])] := by unfold runsAdd; rw [hstE, hlast]
  have hfd : (rs.drop st).flatten.length + (rs.take st).flatten.length = rs.flatten.length := by rw [Nat.add_comm, ← List.length_append, ← List.flatten_append, List.take_append_drop]
  have hlr : ∀ i, i < rs.length → (rs.getD i []).length ≤ 20000 := fun i hi => by have := mem_flat_le (getD_mem hi []); omega
  have HLr : Hid (∀ i, i < rs.length → (rs.getD i []).length ≤ 20000) := hlr
  have HTo : Hid (∀ (g cap : Nat) (w1 : World), w.heap.size ≤ w1.heap.size → (∃ us, w1.ownsRow w.heap.size 22 1 (.slice (some ⟨g, 0, none⟩) (rs.drop st ++ [up run]).length cap) us.length us ∧ LisP (fun v l => IntsV w1 v l ∧ (st = n → IntsN w1 B v l)) us (rs.drop st ++ [up run])) → Calls Try.prog 30 #[.slice (some ⟨g, 0, none⟩) (rs.drop st ++ [up run]).length cap] w1 fun e w' => ∃ ao cap, e = .returned (.slice ao (tog (rs.drop st ++ [up run])).length cap) ∧ Below w1.heap.size w1 w' ∧ Hid (IntsN w' B (.slice ao (tog (rs.drop st ++ [up run])).length cap) (tog (rs.drop st ++ [up run])))) := fun g cap w1 hw1 ⟨us, ho, hp⟩ => by
    have hul : us.length = (rs.drop st ++ [up run]).length := hp.1
    rw [hul] at ho
    refine (together_any _ (some ⟨g, 0, none⟩) cap _ w1 (Nat.le_refl _) (by simp) (by rw [flat_snoc, List.length_append, up_length]; omega) (by simp; omega) (lisV_of_owns ho ⟨hp.1, fun i hi => (hp.2 i hi).1⟩)).mono fun e w' ⟨xo, xc, h1, h2, h3, h4⟩ => ⟨xo, xc, h1, h2, ?_⟩
    rcases h4.out with ⟨h5, b, off, e5, c5⟩ | h5
    · injection e5 with e5
      injection e5 with e6 e7
      subst e6 e7
      have hst1 : st = n := by rw [List.length_append, List.length_drop] at h5; simp at h5; omega
      have hc := ho.cellAt 0 (by omega)
      rw [c5] at hc
      have hu0 : us.getD 0 nilV = .slice xo (tog (rs.drop st ++ [up run])).length xc := by
        rw [List.getD_eq_getElem?_getD, ← hc]
        rfl
      have h6 := (hp.2 0 (by omega)).2 hst1
      rw [hu0] at h6
      have e8 : (rs.drop st ++ [up run]).getD 0 [] = tog (rs.drop st ++ [up run]) := (tog_one (Nat.le_of_eq h5)).symm
      rw [e8] at h6
      exact h6.below h2
    · exact h5.n.mono (Nat.le_trans hBw hw1)
  have HCp : Hid (∀ (ao : Option Addr) (cap : Nat) (w1 : World), LisV w1 (.slice ao (rs.take st).length cap) (rs.take st) → Calls Try.prog 20 #[.slice ao (rs.take st).length cap] w1 fun e w' => ∃ yo yc, e = .returned (.slice yo (rs.take st).length yc) ∧ Below w1.heap.size w1 w' ∧ Hid (LisO w' w1.heap.size (.slice yo (rs.take st).length yc) (rs.take st))) := fun ao cap w1 h => copies_any ao cap _ w1 (by rw [List.length_take]; omega) (fun i hi => by rw [List.length_take] at hi; rw [getD_take _ (by omega)]; exact hlr i (by omega)) h
  have HFl : Hid (∀ k, k < rs.length → (rs.drop k).flatten.length = (rs.getD k []).length + (rs.drop (k + 1)).flatten.length) := fun k h => by rw [flat_drop h, List.length_append]
  have HTot : Hid (∀ k, (rs.drop k).flatten.length ≤ rs.flatten.length) := fun k => by
    have : (rs.take k).flatten.length + (rs.drop k).flatten.length = rs.flatten.length := by rw [← List.length_append, ← List.flatten_append, List.take_append_drop]
    omega
  have hB0 : Below w.heap.size w w := Below.refl _ _
  rw [hra]
  have hl1 : (rs.take st).length = st := by rw [List.length_take]; omega
  have hl2 : (rs.take st ++ [tog (rs.drop st ++ [up run])]).length = st + 1 := by rw [List.length_append, hl1]; rfl
  rw [hl2]
  rw [hl1] at HCp
  rw [hm] at HS0 HU hf ⊢
  rw [hn] at HS0 H hl ⊢
  have HDl : Hid ((rs.drop n).flatten.length = 0) := by show _ = _; rw [← hn, List.drop_length]; rfl
  clear hR hU hn hm hst hstE hstl hlast hra hd hr hlr hl1 hl2 hfd
  go_enter Try.func22, Try.ntmps22
  go_wp2
  go_loopw [5, 6] (fun i s wr => ∃ k : Nat, k ≤ n ∧ i = .int .i64 k ∧ s = .int .i64 ((m + (rs.drop k).flatten.length : Nat) : Int) ∧ Hid (stay rs k (m + (rs.drop k).flatten.length) = st) ∧ wr = w) (fun i _ _ => (intOf i).toNat)
  case atStart => exact ⟨n, Nat.le_refl _, rfl, by rw [HDl.out]; rfl, by rw [HDl.out]; exact HS0, rfl⟩
  case round =>
    obtain ⟨k, hk, rfl, rfl, HT, rfl⟩ := hrel
    have hst24 : (st + 1) * 24 ≤ 140737488355328 := by omega
    have hk2 : m + (rs.drop k).flatten.length ≤ 20000 := by have := HTot.out k; omega
    rcases Nat.eq_zero_or_pos k with h0 | h0
    · have hst0 : 0 = st := by have h := HT.out; rw [h0] at h; exact h
      have hks : k = st := by omega
      have i0 : ¬ (0 : Int) < (k : Int) := by omega
      have i0n : decide (0 < k) = false := decide_eq_false (by omega)
      have i0m : ¬ 0 < k := by omega
      clear HT HS0 h0 hst0
      generalize m + (rs.drop k).flatten.length = ms at *
      subst hks
      obtain ⟨so1, sc1, hsl1, hV1⟩ := slice_lo H.out (k := k) (by omega)
      obtain ⟨so2, sc2, hsl2, hV2⟩ := slice_hi H.out (k := k) (by omega)
      obtain ⟨q1, hq1⟩ : ∃ q1, n - k = q1 := ⟨_, rfl⟩
      have hdl : (rs.drop k).length = q1 := by rw [List.length_drop, HN.out, hq1]
      have HV2 : Hid (∀ w1, Below wr.heap.size wr w1 → LisV w1 (.slice so2 k sc2) (rs.take k)) := fun w1 h => hV2.below h
      rw [hq1] at hsl1 hV1
      have HCo : Hid (Calls Try.prog 31 #[.slice (some ⟨wr.heap.size + 1, 0, none⟩) 2 2] ((wr.alloc (.cells #[.slice uo m uc] 22)).alloc (.cells #[.slice so1 q1 sc1, .slice (some ⟨wr.heap.size, 0, none⟩) 1 1] 23)) fun e w' => ∃ g cap, e = .returned (.slice (some ⟨g, 0, none⟩) (rs.drop k ++ [up run]).length cap) ∧ Below wr.heap.size wr w' ∧ Hid (∃ us, w'.ownsRow wr.heap.size 22 1 (.slice (some ⟨g, 0, none⟩) (rs.drop k ++ [up run]).length cap) us.length us ∧ LisP (fun v l => IntsV w' v l ∧ (k = n → IntsN w' B v l)) us (rs.drop k ++ [up run]))) := by
        have hbx := two_boxes wr (.slice uo m uc) (.slice so1 q1 sc1) 22 23
        obtain ⟨vs1, bo1, bc1, j1, j2, j3, j4, j5⟩ := id hV1
        have hLu : LisVP (fun v l => IntsV wr v l ∧ (k = n → IntsN wr B v l)) ((wr.alloc (.cells #[.slice uo m uc] 22)).alloc (.cells #[.slice so1 q1 sc1, .slice (some ⟨wr.heap.size, 0, none⟩) 1 1] 23)) (.slice (some ⟨wr.heap.size, 0, none⟩) 1 1) [up run] := ⟨[.slice uo m uc], _, 1, rfl, ⟨by simp, fun h => by simp at h⟩, rfl, fun i hi => by simp at hi; subst hi; exact ⟨HU.out.v, fun _ => HU.out⟩, fun _ => ⟨wr.heap.size, 0, rfl, hbx.2.1, fun i hi => by simp at hi; subst hi; exact hbx.2.2.1⟩⟩
        have hS2 : LisVP (fun v l => IntsV wr v l ∧ (k = n → IntsN wr B v l)) ((wr.alloc (.cells #[.slice uo m uc] 22)).alloc (.cells #[.slice so1 q1 sc1, .slice (some ⟨wr.heap.size, 0, none⟩) 1 1] 23)) (.slice so1 q1 sc1) (rs.drop k) := by
          refine ⟨vs1, bo1, bc1, j1, j2, j3, fun i hi => ⟨j4 i hi, fun h => by rw [List.length_drop, HN.out] at hi; omega⟩, fun hne => ?_⟩
          obtain ⟨b', off', e6, hlt', hat'⟩ := j5 hne
          exact ⟨b', off', e6, Nat.lt_of_lt_of_le hlt' hbx.1.size, fun i hi => (hbx.1.cell (p := ⟨b', off' + i, none⟩) hlt').trans (hat' i hi)⟩
        refine (concat_p (fun v l => IntsV wr v l ∧ (k = n → IntsN wr B v l)) (fun _ _ h => h.1.shape) (wr.heap.size + 1) _ _ (rs.drop k) [up run] _ _ (Below.refl _ _) (by rw [hdl]; omega) (by simp) (by simp) hS2 hLu hbx.2.2.2.1 hbx.2.2.2.2).mono fun e w' ⟨g, cap, h1, h2, h3⟩ => ?_
        have hww := hbx.1.trans (h2.mono hbx.1.size)
        obtain ⟨us, h4, h5⟩ := h3.out
        exact ⟨g, cap, by rw [List.length_append]; exact h1, hww, us, by rw [List.length_append]; exact owns_mono h4 hbx.1.size, h5.1, fun i hi => ⟨(h5.2 i hi).1.below hww, fun hk => ((h5.2 i hi).2 hk).below hww⟩⟩
      have hco := HCo.out
      clear hV1 hV2 hdl HCo
      generalize (rs.drop k ++ [up run]).length = cn at *
      generalize (tog (rs.drop k ++ [up run])).length = tn at *
      go_wp2_with fail
      clear hst2 hl hf hq1
      go_wp2_with (first | (go_at_call 31; refine hco.mono ?_; rintro e w1 ⟨g1, ac1, rfl, hb1, hx1⟩; have hto := HTo.out g1 ac1 w1 hb1.size hx1.out) | (go_at_call 30; refine hto.mono ?_; rintro e w2 ⟨ao2, ac2, rfl, hb2, hx2⟩; have hB2 := hb1.trans (hb2.mono hb1.size); have hcp := HCp.out so2 sc2 w2 (HV2.out w2 hB2)) | (go_at_call 20; refine hcp.mono ?_; rintro e w3 ⟨ao3, ac3, rfl, hb3, hx3⟩; have hB3 := hB2.trans (hb3.mono hB2.size)) | (at_builtin; refine push_v (.slice ao2 tn ac2) (rs.take k) (tog (rs.drop k ++ [up run])) w2 rfl _ _ rfl w2.heap.size k ac3 ao3 rfl hx3.out B (Nat.le_trans hBw hB2.size) hx2.out (Nat.le_refl _) hb3 rfl hst24 hb3.size ?_; intro vo4 cap4 w4 hl4 hb4; have HL4 : Hid (LisX w4 B (.slice vo4 (k + 1) cap4) (rs.take k ++ [tog (rs.drop k ++ [up run])])) := hl4; have hB4 := hB3.trans (hb4.mono hB2.size); clear hl4))
      go_ret
      exact ⟨vo4, cap4, rfl, hB4, HL4⟩
    · obtain ⟨j, hj⟩ : ∃ j, j + 1 = k := ⟨k - 1, by omega⟩
      have hjr : j < rs.length := by rw [HN.out]; omega
      obtain ⟨b, off, rfl, hb, u, c1, hu⟩ := H.out.at hjr
      obtain ⟨vo, vc, rfl⟩ := hu.shape
      have hfl := HFl.out j hjr
      have hjl := HLr.out j hjr
      have HStp : Hid (stay rs k (m + (rs.drop k).flatten.length) = if (rs.getD j []).length ≤ m + (rs.drop k).flatten.length then stay rs j (m + (rs.drop k).flatten.length + (rs.getD j []).length) else k) := by show _ = _; rw [← hj]; rfl
      rw [hj] at hfl
      have HNx : Hid ((rs.getD j []).length ≤ m + (rs.drop k).flatten.length → stay rs j (m + (rs.drop j).flatten.length) = st) := fun h => by
        have h2 := HStp.out
        rw [HT.out, if_pos h] at h2
        rw [hfl, h2]
        congr 1
        omega
      have HEx : Hid (¬ (rs.getD j []).length ≤ m + (rs.drop k).flatten.length → k = st) := fun h => by
        have h2 := HStp.out
        rw [HT.out, if_neg h] at h2
        exact h2.symm
      have HSm : Hid (m + (rs.drop j).flatten.length = m + (rs.drop k).flatten.length + (rs.getD j []).length) := by show _ = _; omega
      have i0 : (0 : Int) < (k : Int) := by omega
      have i0n : decide (0 < k) = true := decide_eq_true h0
      have i2 : (j : Int) < (n : Int) := by omega
      have i4 : (k : Int) - 1 = (j : Int) := by omega
      have i5 : IntKind.i64.wrap ((k : Int) - 1) = (j : Int) := by rw [i4, IntWalk.i64_left]; exact IntWalk.wrap64_in _ (by omega)
      have i6 : wrap64 ((k : Int) - 1) = (j : Int) := by rw [i4]; exact IntWalk.wrap64_in _ (by omega)
      have hjn : j ≤ n := by omega
      have hjk : j < k := by omega
      clear HStp hfl hu hjr HT HFl HLr hj i4
      generalize hcc : (rs.getD j []).length = c at *
      clear hcc
      obtain ⟨ms, hms⟩ : ∃ ms, m + (rs.drop k).flatten.length = ms := ⟨_, rfl⟩
      rw [hms] at HNx HEx HSm hk2 ⊢
      clear hms
      by_cases hcm : c ≤ ms
      · have hnx := HNx.out hcm
        have HNx2 : Hid (stay rs j (m + (rs.drop j).flatten.length) = st) := hnx
        have hcmi : (c : Int) ≤ (ms : Int) := by omega
        clear hnx HNx HEx
        go_wp2
        refine ⟨⟨j, hjn, rfl, by rw [HSm.out]; simp, HNx2, by trivial⟩, by simp [intOf]; exact hjk⟩
      · have hks := HEx.out hcm
        have hcmi : ¬ (c : Int) ≤ (ms : Int) := by omega
        clear HNx HEx HSm HS0
        subst hks
        obtain ⟨so1, sc1, hsl1, hV1⟩ := slice_lo H.out (k := k) (by omega)
        obtain ⟨so2, sc2, hsl2, hV2⟩ := slice_hi H.out (k := k) (by omega)
        obtain ⟨q1, hq1⟩ : ∃ q1, n - k = q1 := ⟨_, rfl⟩
        have hdl : (rs.drop k).length = q1 := by rw [List.length_drop, HN.out, hq1]
        have HV2 : Hid (∀ w1, Below wr.heap.size wr w1 → LisV w1 (.slice so2 k sc2) (rs.take k)) := fun w1 h => hV2.below h
        rw [hq1] at hsl1 hV1
        have HCo : Hid (Calls Try.prog 31 #[.slice (some ⟨wr.heap.size + 1, 0, none⟩) 2 2] ((wr.alloc (.cells #[.slice uo m uc] 22)).alloc (.cells #[.slice so1 q1 sc1, .slice (some ⟨wr.heap.size, 0, none⟩) 1 1] 23)) fun e w' => ∃ g cap, e = .returned (.slice (some ⟨g, 0, none⟩) (rs.drop k ++ [up run]).length cap) ∧ Below wr.heap.size wr w' ∧ Hid (∃ us, w'.ownsRow wr.heap.size 22 1 (.slice (some ⟨g, 0, none⟩) (rs.drop k ++ [up run]).length cap) us.length us ∧ LisP (fun v l => IntsV w' v l ∧ (k = n → IntsN w' B v l)) us (rs.drop k ++ [up run]))) := by
          have hbx := two_boxes wr (.slice uo m uc) (.slice so1 q1 sc1) 22 23
          obtain ⟨vs1, bo1, bc1, j1, j2, j3, j4, j5⟩ := id hV1
          have hLu : LisVP (fun v l => IntsV wr v l ∧ (k = n → IntsN wr B v l)) ((wr.alloc (.cells #[.slice uo m uc] 22)).alloc (.cells #[.slice so1 q1 sc1, .slice (some ⟨wr.heap.size, 0, none⟩) 1 1] 23)) (.slice (some ⟨wr.heap.size, 0, none⟩) 1 1) [up run] := ⟨[.slice uo m uc], _, 1, rfl, ⟨by simp, fun h => by simp at h⟩, rfl, fun i hi => by simp at hi; subst hi; exact ⟨HU.out.v, fun _ => HU.out⟩, fun _ => ⟨wr.heap.size, 0, rfl, hbx.2.1, fun i hi => by simp at hi; subst hi; exact hbx.2.2.1⟩⟩
          have hS2 : LisVP (fun v l => IntsV wr v l ∧ (k = n → IntsN wr B v l)) ((wr.alloc (.cells #[.slice uo m uc] 22)).alloc (.cells #[.slice so1 q1 sc1, .slice (some ⟨wr.heap.size, 0, none⟩) 1 1] 23)) (.slice so1 q1 sc1) (rs.drop k) := by
            refine ⟨vs1, bo1, bc1, j1, j2, j3, fun i hi => ⟨j4 i hi, fun h => by rw [List.length_drop, HN.out] at hi; omega⟩, fun hne => ?_⟩
            obtain ⟨b', off', e6, hlt', hat'⟩ := j5 hne
            exact ⟨b', off', e6, Nat.lt_of_lt_of_le hlt' hbx.1.size, fun i hi => (hbx.1.cell (p := ⟨b', off' + i, none⟩) hlt').trans (hat' i hi)⟩
          refine (concat_p (fun v l => IntsV wr v l ∧ (k = n → IntsN wr B v l)) (fun _ _ h => h.1.shape) (wr.heap.size + 1) _ _ (rs.drop k) [up run] _ _ (Below.refl _ _) (by rw [hdl]; omega) (by simp) (by simp) hS2 hLu hbx.2.2.2.1 hbx.2.2.2.2).mono fun e w' ⟨g, cap, h1, h2, h3⟩ => ?_
          have hww := hbx.1.trans (h2.mono hbx.1.size)
          obtain ⟨us, h4, h5⟩ := h3.out
          exact ⟨g, cap, by rw [List.length_append]; exact h1, hww, us, by rw [List.length_append]; exact owns_mono h4 hbx.1.size, h5.1, fun i hi => ⟨(h5.2 i hi).1.below hww, fun hk => ((h5.2 i hi).2 hk).below hww⟩⟩
        have hco := HCo.out
        clear hV1 hV2 hdl HCo
        generalize (rs.drop k ++ [up run]).length = cn at *
        generalize (tog (rs.drop k ++ [up run])).length = tn at *
        go_wp2_with fail
        clear hst2 hl hf hq1
        go_wp2_with (first | (go_at_call 31; refine hco.mono ?_; rintro e w1 ⟨g1, ac1, rfl, hb1, hx1⟩; have hto := HTo.out g1 ac1 w1 hb1.size hx1.out) | (go_at_call 30; refine hto.mono ?_; rintro e w2 ⟨ao2, ac2, rfl, hb2, hx2⟩; have hB2 := hb1.trans (hb2.mono hb1.size); have hcp := HCp.out so2 sc2 w2 (HV2.out w2 hB2)) | (go_at_call 20; refine hcp.mono ?_; rintro e w3 ⟨ao3, ac3, rfl, hb3, hx3⟩; have hB3 := hB2.trans (hb3.mono hB2.size)) | (at_builtin; refine push_v (.slice ao2 tn ac2) (rs.take k) (tog (rs.drop k ++ [up run])) w2 rfl _ _ rfl w2.heap.size k ac3 ao3 rfl hx3.out B (Nat.le_trans hBw hB2.size) hx2.out (Nat.le_refl _) hb3 rfl hst24 hb3.size ?_; intro vo4 cap4 w4 hl4 hb4; have HL4 : Hid (LisX w4 B (.slice vo4 (k + 1) cap4) (rs.take k ++ [tog (rs.drop k ++ [up run])])) := hl4; have hB4 := hB3.trans (hb4.mono hB2.size); clear hl4))
        go_ret
        exact ⟨vo4, cap4, rfl, hB4, HL4⟩
end Go.Proofs.Ytncfkpfbjenpjaa
