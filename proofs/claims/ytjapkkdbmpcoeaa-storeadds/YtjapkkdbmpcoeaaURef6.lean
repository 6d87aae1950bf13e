/-
  The document's KeyAdded.
-/
import Derived.Test.YtjapkkdbmpcoeaaURef5
import Derived.Test.YtjapkkdbmpcoeaaUAdd2
namespace Go.Proofs.Ytjapkkdbmpcoeaa
open Go.ChangeShapes Go.WideShapes Go.ChangeAt Go.RowKit Go.Deep

set_option maxHeartbeats 1600000 in
set_option maxRecDepth 20000 in
theorem radd_bad (lo : List Int) (rs : List (List Int)) (x c : Int) (la ra : Option Addr) (lc rc : Nat) (w : World) (hz : StSz lo rs) (hL : IntsV w (.slice la lo.length lc) lo) (hR : LisV w (.slice ra rs.length rc) rs) (hh : hasC lo rs x = (false, c)) (hc : c ≠ 0) :
    Calls Try.prog 13 #[.agg #[.slice la lo.length lc, .slice ra rs.length rc], .int .i64 x] w (AdPost w ([], [], false, c)) := by
  obtain ⟨W0, hW0⟩ : ∃ W0, W0 = ((w.alloc (.cells #[.slice la lo.length lc, .slice ra rs.length rc] 25)).alloc (.cells #[.slice none 0 0, .slice none 0 0] 25)) := ⟨_, rfl⟩
  have hT : Two w W0 W0 (.slice la lo.length lc) (.slice ra rs.length rc) := by rw [hW0]; exact Two.start w _ _ _
  obtain ⟨_, a0, a1⟩ := id hT.arg
  have hha := rin_any lo rs x la ra lc rc W0 hz (hL.below hT.below) (hR.below hT.below)
  rw [hh] at hha
  generalize lo.length = m at *
  generalize rs.length = n at *
  have hc0 : ¬ c = 0 := hc
  clear hL hR hz hh hc
  go_enter Try.func13, Try.ntmps13
  go_wp2_with fail
  rw [← hW0]
  clear hW0
  go_wp2_with (first | (go_at_call 11; refine hha.mono ?_; rintro e w1 ⟨rfl, hb1⟩; have hT1 := hT.later hb1; obtain ⟨⟨_, z0, z1⟩, g0, g1⟩ := id hT1.res))
  obtain ⟨e1, e2, e3⟩ := hT1.end (OwnI.nil w1 W0.heap.size) (LisX.nil w1 W0.heap.size) (.slice none 0 0) (.slice none 0 0) rfl rfl
  refine bodyPost_ret (v := .tuple #[.agg #[.slice none 0 0, .slice none 0 0], .bool false, .int .i64 c]) ?_ rfl ⟨none, 0, none, 0, rfl, e1, e2, e3⟩
  simp [results, Try.results13, go_sem, z0, z1]

set_option maxHeartbeats 1600000 in
set_option maxRecDepth 20000 in
theorem radd_has (lo : List Int) (rs : List (List Int)) (x : Int) (la ra : Option Addr) (lc rc : Nat) (w : World) (hz : StSz lo rs) (hL : IntsV w (.slice la lo.length lc) lo) (hR : LisV w (.slice ra rs.length rc) rs) (hm : May lo rs) (hh : hasC lo rs x = (true, 0)) :
    Calls Try.prog 13 #[.agg #[.slice la lo.length lc, .slice ra rs.length rc], .int .i64 x] w (AdPost w (lo, rs, false, 0)) := by
  obtain ⟨W0, hW0⟩ : ∃ W0, W0 = ((w.alloc (.cells #[.slice la lo.length lc, .slice ra rs.length rc] 25)).alloc (.cells #[.slice none 0 0, .slice none 0 0] 25)) := ⟨_, rfl⟩
  have hT : Two w W0 W0 (.slice la lo.length lc) (.slice ra rs.length rc) := by rw [hW0]; exact Two.start w _ _ _
  obtain ⟨_, a0, a1⟩ := id hT.arg
  have hha := rin_any lo rs x la ra lc rc W0 hz (hL.below hT.below) (hR.below hT.below)
  have HCp : Hid (∀ w1, Below w.heap.size w w1 → Calls Try.prog 21 #[.agg #[.slice la lo.length lc, .slice ra rs.length rc]] w1 fun e w' => ∃ xo xc yo yc, e = .returned (.agg #[.slice xo lo.length xc, .slice yo rs.length yc]) ∧ Below w1.heap.size w1 w' ∧ Hid (OwnI w' w1.heap.size (.slice xo lo.length xc) lo) ∧ Hid (LisO w' w1.heap.size (.slice yo rs.length yc) rs)) := fun w1 h => (rcopy_any lo rs la ra lc rc w1 hz (hL.below h) (hR.below h)).mono fun e w' ⟨xo, xc, yo, yc, h1, h2, h3, h4⟩ => ⟨xo, xc, yo, yc, h1, h2, h3, h4⟩
  have HKe : Hid (∀ w1, Below w.heap.size w w1 → Calls Try.prog 22 #[.agg #[.slice la lo.length lc, .slice ra rs.length rc]] w1 fun e w' => ∃ ao cap, e = .returned (.slice ao (lo.length + rs.flatten.length) cap) ∧ Below w1.heap.size w1 w') := fun w1 h => (rkeys_any lo rs la ra lc rc w1 hm.size.many hm.size.runs (hL.below h) (hR.below h)).mono fun e w' ⟨ao, cap, h1, h2, _⟩ => ⟨ao, cap, by rw [h1, keysL, List.length_append, Nat.add_comm], h2⟩
  rw [hh] at hha
  unfold AdPost
  simp only
  generalize lo.length = m at *
  generalize rs.length = n at *
  clear hL hR hz hh hm
  go_enter Try.func13, Try.ntmps13
  go_wp2_with fail
  rw [← hW0]
  clear hW0
  go_wp2_with (first | (go_at_call 11; refine hha.mono ?_; rintro e w1 ⟨rfl, hb1⟩; have hT1 := hT.later hb1; obtain ⟨_, q0, q1⟩ := id hT1.arg; have hcp := HCp.out w1 hT1.below; have hs1 := hb1.size) | (go_at_call 21; refine hcp.mono ?_; rintro e w2 ⟨xo, xc, yo, yc, rfl, hb2, hx2, hy2⟩; obtain ⟨hbn, hcn⟩ := Bc.arg w2 (.slice xo m xc) (.slice yo n yc) 25; have hB := Bw.new w2 (.slice xo m xc) (.slice yo n yc) 25; have hT2 := (hT1.later hb2).later hbn; obtain ⟨_, p0, p1⟩ := id hT2.arg; obtain ⟨⟨hl2, t0, t1⟩, f0, f1⟩ := id hB; obtain ⟨⟨_, z0, z1⟩, g0, g1⟩ := id hT2.res; have hke := HKe.out _ hT2.below))
  obtain ⟨e1, e2, e3⟩ := hT2.end ((hx2.out.later hbn (Nat.le_refl _)).mono hs1) ((hy2.out.later hbn (Nat.le_refl _)).x.mono hs1) (.slice xo m xc) (.slice yo n yc) rfl rfl
  refine bodyPost_ret (v := .tuple #[.agg #[.slice xo m xc, .slice yo n yc], .bool false, .int .i64 0]) ?_ rfl ⟨xo, xc, yo, yc, rfl, e1, e2, e3⟩
  simp [results, Try.results13, go_sem, z0, z1]

set_option maxHeartbeats 1600000 in
set_option maxRecDepth 20000 in
theorem radd_full (lo : List Int) (rs : List (List Int)) (x : Int) (la ra : Option Addr) (lc rc : Nat) (w : World) (hz : StSz lo rs) (hL : IntsV w (.slice la lo.length lc) lo) (hR : LisV w (.slice ra rs.length rc) rs) (hm : May lo rs) (hh : hasC lo rs x = (false, 0)) (hf : lo.length + rs.flatten.length = 20000) :
    Calls Try.prog 13 #[.agg #[.slice la lo.length lc, .slice ra rs.length rc], .int .i64 x] w (AdPost w ([], [], false, 12)) := by
  obtain ⟨W0, hW0⟩ : ∃ W0, W0 = ((w.alloc (.cells #[.slice la lo.length lc, .slice ra rs.length rc] 25)).alloc (.cells #[.slice none 0 0, .slice none 0 0] 25)) := ⟨_, rfl⟩
  have hT : Two w W0 W0 (.slice la lo.length lc) (.slice ra rs.length rc) := by rw [hW0]; exact Two.start w _ _ _
  obtain ⟨_, a0, a1⟩ := id hT.arg
  have hha := rin_any lo rs x la ra lc rc W0 hz (hL.below hT.below) (hR.below hT.below)
  have HCp : Hid (∀ w1, Below w.heap.size w w1 → Calls Try.prog 21 #[.agg #[.slice la lo.length lc, .slice ra rs.length rc]] w1 fun e w' => ∃ xo xc yo yc, e = .returned (.agg #[.slice xo lo.length xc, .slice yo rs.length yc]) ∧ Below w1.heap.size w1 w' ∧ Hid (OwnI w' w1.heap.size (.slice xo lo.length xc) lo) ∧ Hid (LisO w' w1.heap.size (.slice yo rs.length yc) rs)) := fun w1 h => (rcopy_any lo rs la ra lc rc w1 hz (hL.below h) (hR.below h)).mono fun e w' ⟨xo, xc, yo, yc, h1, h2, h3, h4⟩ => ⟨xo, xc, yo, yc, h1, h2, h3, h4⟩
  have HKe : Hid (∀ w1, Below w.heap.size w w1 → Calls Try.prog 22 #[.agg #[.slice la lo.length lc, .slice ra rs.length rc]] w1 fun e w' => ∃ ao cap, e = .returned (.slice ao (lo.length + rs.flatten.length) cap) ∧ Below w1.heap.size w1 w') := fun w1 h => (rkeys_any lo rs la ra lc rc w1 hm.size.many hm.size.runs (hL.below h) (hR.below h)).mono fun e w' ⟨ao, cap, h1, h2, _⟩ => ⟨ao, cap, by rw [h1, keysL, List.length_append, Nat.add_comm], h2⟩
  rw [hh] at hha
  rw [hf] at HKe
  generalize lo.length = m at *
  generalize rs.length = n at *
  clear hL hR hz hh hm hf
  go_enter Try.func13, Try.ntmps13
  go_wp2_with fail
  rw [← hW0]
  clear hW0
  go_wp2_with (first | (go_at_call 11; refine hha.mono ?_; rintro e w1 ⟨rfl, hb1⟩; have hT1 := hT.later hb1; obtain ⟨_, q0, q1⟩ := id hT1.arg; have hcp := HCp.out w1 hT1.below; have hs1 := hb1.size) | (go_at_call 21; refine hcp.mono ?_; rintro e w2 ⟨xo, xc, yo, yc, rfl, hb2, hx2, hy2⟩; obtain ⟨hbn, hcn⟩ := Bc.arg w2 (.slice xo m xc) (.slice yo n yc) 25; have hB := Bw.new w2 (.slice xo m xc) (.slice yo n yc) 25; have hT2 := (hT1.later hb2).later hbn; obtain ⟨_, p0, p1⟩ := id hT2.arg; obtain ⟨⟨hl2, t0, t1⟩, f0, f1⟩ := id hB; obtain ⟨⟨_, z0, z1⟩, g0, g1⟩ := id hT2.res; have hke := HKe.out _ hT2.below) | (go_at_call 22; refine hke.mono ?_; rintro e w3 ⟨ko, kc, rfl, hb3⟩; have hT3 := hT2.later hb3; obtain ⟨⟨_, y0, y1⟩, j0, j1⟩ := id hT3.res))
  obtain ⟨e1, e2, e3⟩ := hT3.end (OwnI.nil w3 W0.heap.size) (LisX.nil w3 W0.heap.size) (.slice none 0 0) (.slice none 0 0) rfl rfl
  refine bodyPost_ret (v := .tuple #[.agg #[.slice none 0 0, .slice none 0 0], .bool false, .int .i64 12]) ?_ rfl ⟨none, 0, none, 0, rfl, e1, e2, e3⟩
  simp [results, Try.results13, go_sem, y0, y1]

theorem LisO.far {w w' : World} {B : Nat} {v : Value} {rs : List (List Int)} (h : LisO w B v rs) (hk : ∀ k, B ≤ k → k < w.heap.size → w'.heap[k]? = w.heap[k]?) : LisO w' B v rs := by
  have far : ∀ {e : TypeId} {s n : Nat} {v : Value} {xs : List Value}, w.ownsRow B e s v n xs → w'.ownsRow B e s v n xs := fun ⟨h1, h2⟩ => by
    refine ⟨h1, ?_⟩
    rcases h2 with h2 | ⟨g, cap, cur, hv, hg, hh, r⟩
    · exact .inl h2
    · exact .inr ⟨g, cap, cur, hv, hg, (hk g hg (Array.getElem?_eq_some_iff.1 hh).1).trans hh, r⟩
  obtain ⟨us, h1, h2, h3⟩ := h
  exact ⟨us, far h1, h2, fun i hi => far (h3 i hi)⟩
/-- what holds when a key was put behind those that lie loose, in the copy's box. -/
structure Pushed (w W0 w4 : World) (b9 B : Nat) (x0 x1 u v : Value) (l : List Int) (rs : List (List Int)) : Prop where
  two : Two w W0 (w4.setCell ⟨b9, 0, none⟩ u) x0 x1
  box : Bw (w4.setCell ⟨b9, 0, none⟩ u) b9 u v
  loose : IntsV (w4.setCell ⟨b9, 0, none⟩ u) u l
  runs : LisO (w4.setCell ⟨b9, 0, none⟩ u) B v rs
theorem pushed {w W0 w1 w2 w3 w4 : World} {B m n xc yc cap : Nat} {xo yo vo : Option Addr} {x0 x1 : Value} {lo l : List Int} {rs : List (List Int)} {o : Obj} {t : TypeId}
    (hT : Two w W0 (w2.alloc (.cells #[.slice xo m xc, .slice yo n yc] t)) x0 x1) (hb3 : Below (w2.alloc (.cells #[.slice xo m xc, .slice yo n yc] t)).heap.size (w2.alloc (.cells #[.slice xo m xc, .slice yo n yc] t)) w3) (hs : W0.heap.size ≤ w1.heap.size)
    (hx : OwnI w2 w1.heap.size (.slice xo m xc) lo) (hB : ∀ g, (Value.slice xo m xc).ownBlock = some g → g < B) (hy : LisO w2 B (.slice yo n yc) rs) (hs2 : w1.heap.size ≤ w2.heap.size)
    (ho4 : OwnI w4 w1.heap.size (.slice vo (m + 1) cap) l) (hb4 : Below w1.heap.size w3 w4) (hg4 : (w3.alloc o).grownBy w4 (Value.slice xo m xc).ownBlock) :
    Bw w4 w2.heap.size (.slice xo m xc) (.slice yo n yc) ∧ Pushed w W0 w4 w2.heap.size B x0 x1 (.slice vo (m + 1) cap) (.slice yo n yc) l rs := by
  have hlt := hT.lt
  have hsz : w2.heap.size + 1 = (w2.alloc (.cells #[.slice xo m xc, .slice yo n yc] t)).heap.size := by simp
  have hb9 : w2.heap.size < w3.heap.size := by have := hb3.size; omega
  have hne : ∀ k, (Value.slice xo m xc).ownBlock = some k → k < w2.heap.size := fun k hk => (hx.lt k hk).2
  have hblk : ∀ k, k < w3.heap.size → some k ≠ (Value.slice xo m xc).ownBlock → w4.heap[k]? = w3.heap[k]? := fun k hk hn => by
    have h1 := hg4.block k (by simp; omega) hn
    rw [h1]
    show (w3.heap.push _)[k]? = _
    rw [Array.getElem?_push_lt hk]
    simp [hk]
  have hB2 := (Bw.new w2 (.slice xo m xc) (.slice yo n yc) t).later hb3
  have hkeep : some w2.heap.size ≠ (Value.slice xo m xc).ownBlock := fun e => by have := hne _ e.symm; omega
  have hbk := hblk w2.heap.size hb9 hkeep
  have hB4 : Bw w4 w2.heap.size (.slice xo m xc) (.slice yo n yc) := by
    obtain ⟨⟨h1, c0, c1⟩, f0, f1⟩ := hB2
    exact ⟨⟨Nat.lt_of_lt_of_le h1 hb4.size, (World.cell?_of_block (a := ⟨w2.heap.size, 0, none⟩) hbk).trans c0, (World.cell?_of_block (a := ⟨w2.heap.size, 1, none⟩) hbk).trans c1⟩, (World.frozen?_of_block (a := ⟨w2.heap.size, 0, none⟩) hbk).trans f0, (World.frozen?_of_block (a := ⟨w2.heap.size, 1, none⟩) hbk).trans f1⟩
  have hT3 := hT.later hb3
  obtain ⟨t1, t2, t3, t4⟩ := hT3
  have hb5 : Below w1.heap.size w3 (w4.setCell ⟨w2.heap.size, 0, none⟩ (.slice vo (m + 1) cap)) := hb4.setCell (p := ⟨w2.heap.size, 0, none⟩) hs2 _
  have hwle : w.heap.size + 2 ≤ w1.heap.size := by omega
  refine ⟨hB4, ⟨t1.trans (hb5.mono (by omega)), ?_, ?_, hlt⟩, ?_, ho4.v.setBox hB4.1.2.1 _, ?_⟩
  · exact ⟨Nat.lt_of_lt_of_le t2.1 hb5.size, (hb5.cell (p := ⟨w.heap.size, 0, none⟩) (by show w.heap.size < _; omega)).trans t2.2.1, (hb5.cell (p := ⟨w.heap.size, 1, none⟩) (by show w.heap.size < _; omega)).trans t2.2.2⟩
  · obtain ⟨⟨r1, r2, r3⟩, r4, r5⟩ := t3
    exact ⟨⟨Nat.lt_of_lt_of_le r1 hb5.size, (hb5.cell (p := ⟨w.heap.size + 1, 0, none⟩) (by show w.heap.size + 1 < _; omega)).trans r2, (hb5.cell (p := ⟨w.heap.size + 1, 1, none⟩) (by show w.heap.size + 1 < _; omega)).trans r3⟩, (hb5.frozen (p := ⟨w.heap.size + 1, 0, none⟩) (by show w.heap.size + 1 < _; omega)).trans r4, (hb5.frozen (p := ⟨w.heap.size + 1, 1, none⟩) (by show w.heap.size + 1 < _; omega)).trans r5⟩
  · obtain ⟨⟨h1, c0, c1⟩, f0, f1⟩ := hB4
    exact ⟨⟨by simpa using h1, by simp [go_sem, c0], by simp [go_sem, c1]⟩, by simp [go_sem, f0], by simp [go_sem, f1]⟩
  · refine hy.far fun k hk1 hk2 => ?_
    rw [heap_setCell_other w4 _ k _ (show k ≠ w2.heap.size by omega), hblk k (by omega) (fun e => by have := hB _ e.symm; omega), hb3.block k (by omega)]
    show (w2.heap.push _)[k]? = _
    rw [Array.getElem?_push_lt hk2]
    simp [hk2]
theorem Two.endV {w W0 w1 : World} {x0 x1 : Value} (h : Two w W0 w1 x0 x1) {u v : Value} {lo : List Int} {rs : List (List Int)} (hx : IntsV w1 u lo) (hy : LisX w1 W0.heap.size v rs) :
    Below w.heap.size w ((w1.setCell ⟨w.heap.size + 1, 0, none⟩ u).setCell ⟨w.heap.size + 1, 1, none⟩ v) ∧ IntsV ((w1.setCell ⟨w.heap.size + 1, 0, none⟩ u).setCell ⟨w.heap.size + 1, 1, none⟩ v) u lo ∧ LisV ((w1.setCell ⟨w.heap.size + 1, 0, none⟩ u).setCell ⟨w.heap.size + 1, 1, none⟩ v) v rs := by
  have hlt := h.lt
  obtain ⟨⟨_, c0, c1⟩, _, _⟩ := h.res
  have c1' : (w1.setCell ⟨w.heap.size + 1, 0, none⟩ u).cell? ⟨w.heap.size + 1, 1, none⟩ = some (.slice none 0 0) := by simp [go_sem, c1]
  exact ⟨(h.below.setCell (p := ⟨w.heap.size + 1, 0, none⟩) (by simp) _).setCell (p := ⟨w.heap.size + 1, 1, none⟩) (by simp) _, (hx.setBox c0 _).setBox c1' _, ((hy.setBox (p := ⟨w.heap.size + 1, 0, none⟩) (by show w.heap.size + 1 < _; omega) c0 _).setBox (p := ⟨w.heap.size + 1, 1, none⟩) (by show w.heap.size + 1 < _; omega) c1' _).v⟩
end Go.Proofs.Ytjapkkdbmpcoeaa
