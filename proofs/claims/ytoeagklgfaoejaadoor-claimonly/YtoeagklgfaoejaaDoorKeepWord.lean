/-
  The contracts of the keeping laws' own letter and Word: a word that passes.
-/
import Derived.Test.YtoeagklgfaoejaaDoorKeepForm
import Derived.Test.YtoeagklgfaoejaaDoorLettersOf
import Derived.Test.YtoeagklgfaoejaaDoorLogicRead
namespace Go.Proofs.YtoeagklgfaoejaaDoor
open Go.ChangeShapes Go.WideShapes Go.ChangeAt Go.RowKit Go.Deep
open Terms

set_option maxHeartbeats 800000 in
set_option maxRecDepth 20000 in
/-- THE CONTRACT OF letter: three truths. -/
theorem letterFn_any (n : Int) (w : World) (hn : I64 n) :
    Calls Tryd.prog 11 #[.int .i64 n] w fun e w' => ∃ g x0 x1 x2, e = .returned (.slice (some ⟨g, 0, none⟩) 3 3) ∧ Below w.heap.size w w' ∧ w'.ownsRow w.heap.size 4 1 (.slice (some ⟨g, 0, none⟩) 3 3) 3 (bvals [x0, x1, x2]) := by
  have hpk := fun w => picked_any n 8 w hn (by decide) (by decide)
  go_enter Tryd.func11, Tryd.ntmps11
  go_wp2_with (go_at_call 8; refine (hpk _).mono ?_; rintro e w1 ⟨r, hr0, hr1, rfl, rfl⟩)
  go_ret
  exact ⟨_, _, _, _, rfl, (Below.refl _ _).alloc (Nat.le_refl _) _, World.ownsRow_lit _ #[.bool _, .bool _, .bool _] 3 (Nat.le_refl _) (by unfold maxLen; omega) rfl⟩

/-- numbers that came in. -/
structure IntsR (w : World) (v : Value) (l : List Int) : Prop where
  v : IntsV w v l
  len : l.length ≤ 140737488355328
  range : ∀ i, i < l.length → I64 (l.getD i 0)
theorem IntsR.below {w w' : World} {v : Value} {l : List Int} (h : IntsR w v l) (hb : Below w.heap.size w w') : IntsR w' v l := ⟨h.v.below hb, h.len, h.range⟩

theorem owns_same {w w' : World} {base : Nat} {e : TypeId} {s n : Nat} {v : Value} {xs : List Value} (h : w.ownsRow base e s v n xs) (hs : ∀ g, base ≤ g → g < w.heap.size → w'.heap[g]? = w.heap[g]?) : w'.ownsRow base e s v n xs := by
  refine ⟨h.1, ?_⟩
  rcases h.2 with h2 | ⟨g, cap, cur, hv, hg, hh, r⟩
  · exact .inl h2
  · exact .inr ⟨g, cap, cur, hv, hg, (hs g hg (Array.getElem?_eq_some_iff.1 hh).1).trans hh, r⟩
theorem LettersOwn.same {w w' : World} {base : Nat} {v : Value} {ls : List (List Bool)} (h : LettersOwn w base v ls) (hs : ∀ g, base ≤ g → g < w.heap.size → w'.heap[g]? = w.heap[g]?) : LettersOwn w' base v ls := by
  obtain ⟨us, h1, h2⟩ := h
  exact ⟨us, owns_same h1 hs, fun j hj => owns_same (h2 j hj) hs⟩

/-- Word's three structs, as they lie: what came in, the result, the word under way. -/
structure WdJ (w : World) (q0 q1 x0 x1 : Value) (W : World) : Prop where
  below : Below w.heap.size w W
  hs : W.heap[w.heap.size]? = some (.cells #[q0, q1] 25 (0, 0))
  hr : W.heap[w.heap.size + 1]? = some (.cells #[.slice none 0 0, .slice none 0 0] 28 (0, 0))
  hw : W.heap[w.heap.size + 2]? = some (.cells #[x0, x1] 28 (0, 0))
theorem WdJ.lt {w : World} {q0 q1 x0 x1 : Value} {W : World} (J : WdJ w q0 q1 x0 x1 W) : w.heap.size + 2 < W.heap.size := (Array.getElem?_eq_some_iff.1 J.hw).1
theorem WdJ.later {w : World} {q0 q1 x0 x1 : Value} {W W' : World} (J : WdJ w q0 q1 x0 x1 W) (hb : Below W.heap.size W W') : WdJ w q0 q1 x0 x1 W' := by
  have hl := J.lt
  exact ⟨J.below.trans (hb.mono J.below.size), (hb.block _ (by omega)).trans J.hs, (hb.block _ (by omega)).trans J.hr, (hb.block _ (by omega)).trans J.hw⟩
theorem WdJ.grow {w : World} {q0 q1 x0 x1 : Value} {W W' : World} {v : Value} (J : WdJ w q0 q1 x0 x1 W) (o : Obj) (hg : (W.alloc o).grownBy W' v.ownBlock) (hv : ∀ k, v.ownBlock = some k → w.heap.size + 3 ≤ k) : WdJ w q0 q1 x0 x1 W' := by
  have hl := J.lt
  have hbk : ∀ g, g ≤ w.heap.size + 2 → W'.heap[g]? = W.heap[g]? := fun g hgl => by
    rw [hg.block g (by simp; omega) (fun e => by have := hv g e.symm; omega), Below.heap_alloc _ _ _ (by omega)]
  exact ⟨(J.below.alloc J.below.size o).grown hg (by simp; omega) (fun k hk => by have := hv k hk; omega), (hbk _ (by omega)).trans J.hs, (hbk _ (by omega)).trans J.hr, (hbk _ (by omega)).trans J.hw⟩
theorem WdJ.set0 {w : World} {q0 q1 x0 x1 : Value} {W : World} (J : WdJ w q0 q1 x0 x1 W) (y : Value) : WdJ w q0 q1 y x1 (W.setCell ⟨w.heap.size + 2, 0, none⟩ y) :=
  ⟨J.below.setCell (by simp) _, (Below.heap_setCell W _ _ _ (by simp)).trans J.hs, (Below.heap_setCell W _ _ _ (by simp)).trans J.hr, by simp [World.setCell, Array.getElem?_modify, J.hw]⟩
theorem WdJ.set1 {w : World} {q0 q1 x0 x1 : Value} {W : World} (J : WdJ w q0 q1 x0 x1 W) (y : Value) : WdJ w q0 q1 x0 y (W.setCell ⟨w.heap.size + 2, 1, none⟩ y) :=
  ⟨J.below.setCell (by simp) _, (Below.heap_setCell W _ _ _ (by simp)).trans J.hs, (Below.heap_setCell W _ _ _ (by simp)).trans J.hr, by simp [World.setCell, Array.getElem?_modify, J.hw]⟩
theorem WdJ.facts {w : World} {q0 q1 x0 x1 : Value} {W : World} (J : WdJ w q0 q1 x0 x1 W) : W.cell? ⟨w.heap.size, 0, none⟩ = some q0 ∧ W.cell? ⟨w.heap.size, 1, none⟩ = some q1 ∧ W.cell? ⟨w.heap.size + 2, 0, none⟩ = some x0 ∧ W.cell? ⟨w.heap.size + 2, 1, none⟩ = some x1 ∧ W.frozen? ⟨w.heap.size + 2, 0, none⟩ = false ∧ W.frozen? ⟨w.heap.size + 2, 1, none⟩ = false := by
  refine ⟨?_, ?_, ?_, ?_, ?_, ?_⟩
  · simp [World.cell?, J.hs]
  · simp [World.cell?, J.hs]
  · simp [World.cell?, J.hw]
  · simp [World.cell?, J.hw]
  · simp [World.frozen?, J.hw]
  · simp [World.frozen?, J.hw]
theorem WdJ.facts2 {w : World} {q0 q1 x0 x1 : Value} {W : World} (J : WdJ w q0 q1 x0 x1 W) : W.cell? ⟨w.heap.size + 1, 0, none⟩ = some (.slice none 0 0) ∧ W.cell? ⟨w.heap.size + 1, 1, none⟩ = some (.slice none 0 0) ∧ W.frozen? ⟨w.heap.size + 1, 0, none⟩ = false ∧ W.frozen? ⟨w.heap.size + 1, 1, none⟩ = false := by
  refine ⟨?_, ?_, ?_, ?_⟩
  · simp [World.cell?, J.hr]
  · simp [World.cell?, J.hr]
  · simp [World.frozen?, J.hr]
  · simp [World.frozen?, J.hr]
/-- each letter has three truths. -/
def All3 (ls : List (List Bool)) : Prop := ∀ x, x ∈ ls → x.length = 3
theorem All3.snoc {ls : List (List Bool)} (h : All3 ls) (x0 x1 x2 : Bool) : All3 (ls ++ [[x0, x1, x2]]) := fun x hx => by
  rcases List.mem_append.1 hx with h1 | h1
  · exact h x h1
  · obtain rfl : x = [x0, x1, x2] := by simpa using h1
    rfl
/-- behind k letters of the stem. -/
def Wd1 (w : World) (q0 q1 : Value) (k : Nat) (W : World) : Prop := ∃ x0 ss, ss.length = k ∧ All3 ss ∧ WdJ w q0 q1 x0 (.slice none 0 0) W ∧ LettersOwn W (w.heap.size + 3) x0 ss
/-- behind k letters of the loop. -/
def Wd2 (w K : World) (q0 q1 x0 : Value) (k : Nat) (W : World) : Prop := ∃ x1 ll, ll.length = k ∧ All3 ll ∧ WdJ w q0 q1 x0 x1 W ∧ LettersOwn W K.heap.size x1 ll ∧ K.heap.size ≤ W.heap.size ∧ ∀ g, w.heap.size + 3 ≤ g → g < K.heap.size → W.heap[g]? = K.heap[g]?
theorem snoc_any {W W2 W' : World} {base : Nat} {v v' u : Value} {ls : List (List Bool)} {x0 x1 x2 : Bool} {us : List Value} {o : Obj}
    (hus : W.ownsRow base 39 1 v ls.length us) (hts : ∀ j, j < ls.length → W.ownsRow base 4 1 (us.getD j nilV) (ls.getD j []).length (bvals (ls.getD j []))) (hb2 : Below W.heap.size W W2) (hz : base ≤ W.heap.size) (ho2 : W2.ownsRow W.heap.size 4 1 u 3 (bvals [x0, x1, x2])) (hg : (W2.alloc o).grownBy W' v.ownBlock) (ho : W'.ownsRow base 39 1 v' (ls.length + 1) (us ++ [u])) : LettersOwn W' base v' (ls ++ [[x0, x1, x2]]) :=
  LettersOwn.snoc (owns_later hus hb2 (Nat.le_refl _)) (fun j hj => owns_later (hts j hj) hb2 (Nat.le_refl _)) (owns_mono ho2 hz) ⟨_, rfl⟩ hg ho

/-- what a round stands on, behind the call of letter. -/
structure WdG (w : World) (j base : Nat) (qi : Value) (xo : Option Addr) (k xc : Nat) (us : List Value) (w2 : World) : Prop where
  cx : w2.cell? ⟨w.heap.size + 2, j, none⟩ = some (.slice xo k xc)
  cq : w2.cell? ⟨w.heap.size, j, none⟩ = some qi
  size : ∀ o : Obj, base ≤ (w2.alloc o).heap.size
  own : ∀ o : Obj, (w2.alloc o).ownsRow base 39 1 (.slice xo k xc) k us
  grown : ∀ (o : Obj) (w4 : World), (w2.alloc o).grownBy w4 (Value.slice xo k xc).ownBlock → w4.cell? ⟨w.heap.size + 2, j, none⟩ = some (.slice xo k xc) ∧ w4.frozen? ⟨w.heap.size + 2, j, none⟩ = false

set_option maxHeartbeats 3200000 in
set_option maxRecDepth 20000 in
/-- THE CONTRACT OF Word. -/
theorem wordFn_any (s0 s1 : Value) (a b : List Int) (w : World) (hA : IntsR w s0 a) (hB : IntsR w s1 b) :
    Calls Tryd.prog 4 #[.agg #[s0, s1]] w fun e w' => ∃ so sc lo lc ss ll, e = .returned (.agg #[.slice so ss.length sc, .slice lo ll.length lc]) ∧ Below w.heap.size w w' ∧ WOk ss ll ∧ Hid (LettersV w' (.slice so ss.length sc) ss ∧ LettersV w' (.slice lo ll.length lc) ll) := by
  obtain ⟨ao, ac, rfl, ha⟩ := id hA.v
  obtain ⟨bo, bc, rfl, hb⟩ := id hB.v
  have HA : Hid (a ≠ [] → ∃ b off, ao = some ⟨b, off, none⟩ ∧ b < w.heap.size ∧ IntsAt w b off a) := ha
  have HB : Hid (b ≠ [] → ∃ b' off, bo = some ⟨b', off, none⟩ ∧ b' < w.heap.size ∧ IntsAt w b' off b) := hb
  have HRA := (show Hid _ from hA.range)
  have HRB := (show Hid _ from hB.range)
  have hla := hA.len
  have hlb := hB.len
  obtain ⟨an, han⟩ : ∃ an, an = a.length := ⟨_, rfl⟩
  obtain ⟨bn, hbn⟩ : ∃ bn, bn = b.length := ⟨_, rfl⟩
  have HAN : Hid (an = a.length) := han
  have HBN : Hid (bn = b.length) := hbn
  rw [← han] at hla ⊢
  rw [← hbn] at hlb ⊢
  have HLe : Hid (∀ n w, I64 n → Calls Tryd.prog 11 #[.int .i64 n] w fun e w' => ∃ g x0 x1 x2, e = .returned (.slice (some ⟨g, 0, none⟩) 3 3) ∧ Below w.heap.size w w' ∧ Hid (w'.ownsRow w.heap.size 4 1 (.slice (some ⟨g, 0, none⟩) 3 3) 3 (bvals [x0, x1, x2]))) := fun n w hn => letterFn_any n w hn
  have HJ0 : Hid (Wd1 w (.slice ao an ac) (.slice bo bn bc) 0 (((w.alloc (.cells #[.slice ao an ac, .slice bo bn bc] 25)).alloc (.cells #[.slice none 0 0, .slice none 0 0] 28)).alloc (.cells #[.slice none 0 0, .slice none 0 0] 28))) := by
    refine ⟨.slice none 0 0, [], rfl, fun x hx => by simp at hx, ⟨(((Below.refl _ _).alloc (Nat.le_refl _) _).alloc (by simp) _).alloc (by simp; omega) _, ?_, ?_, ?_⟩, LettersOwn.nil _ _⟩
    · rw [Below.heap_alloc _ _ _ (by simp; omega), Below.heap_alloc _ _ _ (by simp)]; exact blk_alloc_new _ _
    · rw [Below.heap_alloc _ _ _ (by simp)]
      have := blk_alloc_new (w.alloc (.cells #[.slice ao an ac, .slice bo bn bc] 25)) (.cells #[.slice none 0 0, .slice none 0 0] 28)
      simpa using this
    · have := blk_alloc_new ((w.alloc (.cells #[.slice ao an ac, .slice bo bn bc] 25)).alloc (.cells #[.slice none 0 0, .slice none 0 0] 28)) (.cells #[.slice none 0 0, .slice none 0 0] 28)
      simpa using this
  obtain ⟨i0, hi, hz0, hz1, hz2⟩ := info_parts infoBools
  clear hA hB ha hb han hbn
  go_enter Tryd.func4, Tryd.ntmps4
  go_wp2_with fail
  go_loopw [4] (fun i wr => ∃ k : Nat, k ≤ an ∧ k ≤ 5 ∧ i = .int .i64 (k : Int) ∧ Hid (Wd1 w (.slice ao an ac) (.slice bo bn bc) k wr)) (fun i _ => 5 - (intOf i).toNat)
  case atStart => exact ⟨0, Nat.zero_le _, Nat.zero_le _, rfl, HJ0.out⟩
  case round =>
    obtain ⟨k, hk, hk5, rfl, HJ⟩ := hrel
    clear HJ0
    obtain ⟨x0, ss, hsl, h3, J, hO⟩ := HJ.out
    obtain ⟨c0, c1, c2, c3, c4, c5⟩ := J.facts
    by_cases hlt : k < an ∧ k < 5
    · obtain ⟨hlt1, hlt2⟩ := hlt
      obtain ⟨ab, aoff, rfl, habl, haat⟩ := HA.out (by intro h; have := HAN.out; rw [h] at this; simp at this; omega)
      have hca := (J.below.cell (p := ⟨ab, aoff + k, none⟩) habl).trans (haat k (by rw [← HAN.out]; exact hlt1))
      have hle := HLe.out (a.getD k 0) wr (HRA.out k (by rw [← HAN.out]; exact hlt1))
      obtain ⟨us, hus, hts⟩ := hO
      have HUS := (show Hid _ from hus)
      have HTS := (show Hid _ from hts)
      have HSL : Hid (ss.length = k) := hsl
      have H3 : Hid (All3 ss) := h3
      have HJJ := (show Hid _ from J)
      rw [hsl] at hus
      obtain ⟨xo, xc, rfl⟩ := owns_slice hus
      have hnb := hus.lt
      have h63 : k + 1 ≤ maxLen := by unfold maxLen; omega
      have hkb : (k + 1) * 24 ≤ 140737488355328 := by omega
      have hlw := J.lt
      generalize a.getD k 0 = y at *
      clear haat hts hsl h3 HJ J HLe HA HB
      have HG : Hid (∀ w2 : World, Below wr.heap.size wr w2 → WdG w 0 (w.heap.size + 3) (.slice (some ⟨ab, aoff, none⟩) an ac) xo k xc us w2) := fun w2 hb => by
        have J2 := HJJ.out.later hb
        have f2 := J2.facts
        have hz := J2.lt
        refine ⟨f2.2.2.1, f2.1, fun o => by simp; omega, fun o => (owns_later hus hb (Nat.le_refl _)).alloc o, fun o w4 hg => ?_⟩
        have f4 := (J2.grow o hg (fun q hq => (hnb q hq).1)).facts
        exact ⟨f4.2.2.1, f4.2.2.2.2.1⟩
      clear hus
      go_wp2_with (first | (go_at_call 11; refine hle.mono ?_; rintro e w2 ⟨g, x0, x1, x2, rfl, hb2, HO2⟩; have hG2 := HG.out w2 hb2; have g0 := hG2.cx; have g1 := hG2.cq) | (at_builtin; refine wpList_append_own _ rfl (.tmp 26) (.tmp 28) 26 rfl (w.heap.size + 3) 39 i0 (.slice none 0 0) 1 24 Tryd.underlying26 hi hz0 hz1 hz2 rfl (by decide) _ k us rfl (hG2.own _) ⟨w2.heap.size, 0, none⟩ 1 1 [.slice (some ⟨g, 0, none⟩) 3 3] rfl rfl (cell_one_new _ _ _) (by intro u hu; simp at hu; subst hu; rfl) h63 hkb (hG2.size _) ?_; intro v' w4 hown' hgrow _; have hgg := hG2.grown _ w4 hgrow; have k0 := hgg.1; have k1 := hgg.2; have hom := owns_more hown'; obtain ⟨vo, vc, rfl⟩ := hom))
      have HF : Hid (Wd1 w (.slice (some ⟨ab, aoff, none⟩) an ac) (.slice bo bn bc) (k + 1) (w4.setCell ⟨w.heap.size + 2, 0, none⟩ (.slice (some ⟨vo, 0, none⟩) (k + 1) vc))) := by
        have J4 := (HJJ.out.later hb2).grow _ hgrow (fun q hq => (hnb q hq).1)
        have hsn := snoc_any HUS.out HTS.out hb2 (by omega) HO2.out hgrow (by rw [HSL.out]; exact hown')
        exact ⟨_, ss ++ [[x0, x1, x2]], by rw [List.length_append, HSL.out]; rfl, H3.out.snoc _ _ _, J4.set0 _, hsn.low (by simp) _⟩
      clear hown' hgrow hG2 HUS HTS HG HJJ
      go_wp2_with fail
      exact ⟨⟨k + 1, hlt1, by omega, by first | rfl | simp, HF.out⟩, by simp [intOf]; omega⟩
    · have hcs : an ≤ k ∨ (k < an ∧ 5 ≤ k) := by omega
      obtain ⟨xo, xc, rfl⟩ := hO.lettersV.shape
      have HJ1 := (show Hid _ from J)
      have HO1 : Hid (LettersOwn wr (w.heap.size + 3) (.slice xo ss.length xc) ss) := hO
      have HSL : Hid (ss.length = k) := hsl
      have H3 : Hid (All3 ss) := h3
      have hSS : Hid (∀ W, (∀ g, w.heap.size + 3 ≤ g → g < wr.heap.size → W.heap[g]? = wr.heap[g]?) → LettersOwn W (w.heap.size + 3) (.slice xo ss.length xc) ss) := fun W h => HO1.out.same h
      rw [hsl] at c2 HJ1
      clear HJ J hO hsl h3 hlt HRA HA HO1
      generalize wr = wo at *
      rcases hcs with hc1 | ⟨hc1, hc2⟩
      all_goals
        go_wp2_with fail
        go_loopw [6] (fun i wr => ∃ q : Nat, q ≤ bn ∧ q ≤ 5 ∧ i = .int .i64 (q : Int) ∧ Hid (Wd2 w wo (.slice ao an ac) (.slice bo bn bc) (.slice xo k xc) q wr)) (fun i _ => 5 - (intOf i).toNat)
        case atStart => exact ⟨0, Nat.zero_le _, Nat.zero_le _, rfl, .slice none 0 0, [], rfl, (fun x hx => by simp at hx), HJ1.out, LettersOwn.nil _ _, Nat.le_refl _, fun g _ _ => rfl⟩
        case round =>
          obtain ⟨q, hq, hq5, rfl, HJ⟩ := hrel
          obtain ⟨x1, ll, hll, hl3, J, hO, hKs, hKp⟩ := HJ.out
          obtain ⟨d0, d1, d2, d3, d4, d5⟩ := J.facts
          clear c0 c1 c2 c3 c4 c5
          by_cases hlt : q < bn ∧ q < 5
          · obtain ⟨hlt1, hlt2⟩ := hlt
            obtain ⟨ab, aoff, rfl, habl, haat⟩ := HB.out (by intro h; have := HBN.out; rw [h] at this; simp at this; omega)
            have hca := (J.below.cell (p := ⟨ab, aoff + q, none⟩) habl).trans (haat q (by rw [← HBN.out]; exact hlt1))
            have hle := HLe.out (b.getD q 0) wr (HRB.out q (by rw [← HBN.out]; exact hlt1))
            obtain ⟨us, hus, hts⟩ := hO
            have HUS := (show Hid _ from hus)
            have HTS := (show Hid _ from hts)
            have HLL : Hid (ll.length = q) := hll
            have HL3 : Hid (All3 ll) := hl3
            have HJJ := (show Hid _ from J)
            have HKP := (show Hid _ from hKp)
            rw [hll] at hus
            obtain ⟨yo, yc, rfl⟩ := owns_slice hus
            have hnb := hus.lt
            have h63 : q + 1 ≤ maxLen := by unfold maxLen; omega
            have hkb : (q + 1) * 24 ≤ 140737488355328 := by omega
            have hlw := HJ1.out.lt
            generalize b.getD q 0 = y at *
            have HG : Hid (∀ w2 : World, Below wr.heap.size wr w2 → WdG w 1 wo.heap.size (.slice (some ⟨ab, aoff, none⟩) bn bc) yo q yc us w2) := fun w2 hb => by
              have J2 := HJJ.out.later hb
              have f2 := J2.facts
              have hz := hb.size
              refine ⟨f2.2.2.2.1, f2.2.1, fun o => by simp; omega, fun o => (owns_later hus hb (Nat.le_refl _)).alloc o, fun o w4 hg => ?_⟩
              have f4 := (J2.grow o hg (fun z hz => by have := (hnb z hz).1; omega)).facts
              exact ⟨f4.2.2.2.1, f4.2.2.2.2.2⟩
            clear haat hts hll hl3 HJ J HLe HB hus hKp
            go_wp2_with (first | (go_at_call 11; refine hle.mono ?_; rintro e w2 ⟨g, x0, x1, x2, rfl, hb2, HO2⟩; have hG2 := HG.out w2 hb2; have g0 := hG2.cx; have g1 := hG2.cq) | (at_builtin; refine wpList_append_own _ rfl (.tmp 49) (.tmp 51) 26 rfl wo.heap.size 39 i0 (.slice none 0 0) 1 24 Tryd.underlying26 hi hz0 hz1 hz2 rfl (by decide) _ q us rfl (hG2.own _) ⟨w2.heap.size, 0, none⟩ 1 1 [.slice (some ⟨g, 0, none⟩) 3 3] rfl rfl (cell_one_new _ _ _) (by intro u hu; simp at hu; subst hu; rfl) h63 hkb (hG2.size _) ?_; intro v' w4 hown' hgrow _; have hgg := hG2.grown _ w4 hgrow; have k0 := hgg.1; have k1 := hgg.2; have hom := owns_more hown'; obtain ⟨vo, vc, rfl⟩ := hom))
            have HF : Hid (Wd2 w wo (.slice ao an ac) (.slice (some ⟨ab, aoff, none⟩) bn bc) (.slice xo k xc) (q + 1) (w4.setCell ⟨w.heap.size + 2, 1, none⟩ (.slice (some ⟨vo, 0, none⟩) (q + 1) vc))) := by
              have J4 := (HJJ.out.later hb2).grow _ hgrow (fun z hz => by have := (hnb z hz).1; omega)
              have hsn := snoc_any HUS.out HTS.out hb2 hKs HO2.out hgrow (by rw [HLL.out]; exact hown')
              have hz2 := hb2.size
              have hz4 := hgrow.size
              simp only [World.size_alloc] at hz4
              refine ⟨_, ll ++ [[x0, x1, x2]], by rw [List.length_append, HLL.out]; rfl, HL3.out.snoc _ _ _, J4.set1 _, hsn.low (by show w.heap.size + 2 < _; omega) _, by simp; omega, fun z hz1 hz2 => ?_⟩
              rw [Below.heap_setCell _ _ _ _ (by show z ≠ w.heap.size + 2; omega), hgrow.block z (by simp; omega) (fun e => by have := (hnb z e.symm).1; omega), Below.heap_alloc _ _ _ (by omega), hb2.block z (by omega)]
              exact HKP.out z hz1 hz2
            clear hown' hgrow hG2 HUS HTS HG HJJ
            go_wp2_with fail
            exact ⟨⟨q + 1, hlt1, by omega, by first | rfl | simp, HF.out⟩, by simp [intOf]; omega⟩
          · have hcq : bn ≤ q ∨ (q < bn ∧ 5 ≤ q) := by omega
            obtain ⟨yo, yc, rfl⟩ := hO.lettersV.shape
            have HLL : Hid (ll.length = q) := hll
            have HL3 : Hid (All3 ll) := hl3
            have HJ2 : Hid (WdJ w (.slice ao an ac) (.slice bo bn bc) (.slice xo k xc) (.slice yo ll.length yc) wr) := J
            have HO2 : Hid (LettersOwn wr wo.heap.size (.slice yo ll.length yc) ll) := hO
            have HKP := (show Hid _ from hKp)
            rw [hll] at d3 HJ2
            have hlw := HJ1.out.lt
            have hle5 := HLe.out 5 wr (by unfold I64; omega)
            obtain ⟨f0, f1, f2, f3⟩ := J.facts2
            clear HJ J hO hll hl3 hlt HRB HB HLe hKp
            have HG : Hid (∀ w2 : World, Below wr.heap.size wr w2 → WdJ w (.slice ao an ac) (.slice bo bn bc) (.slice xo k xc) (.slice yo q yc) w2) := fun w2 hb => HJ2.out.later hb
            have hlr := HJ2.out.lt
            by_cases hq0 : q = 0
            · have HQ0 : Hid (q = 0) := hq0
              have hcq1 : bn ≤ q := by omega
              have hqe : ((q : Int) == 0) = true := by simp; omega
              clear hq0 hcq
              go_wp2_with (go_at_call 11; refine hle5.mono ?_; rintro e w2 ⟨g, x0, x1, x2, rfl, hb2, HO3⟩; have g0 := (HG.out w2 hb2).facts; obtain ⟨g0, g1, g2, g3, g4, g5⟩ := g0; have g6 := (HG.out w2 hb2).facts2; obtain ⟨g6, g7, g8, g9⟩ := g6; have hl2 := (HG.out w2 hb2).lt; have hl1 : w.heap.size + 1 < w2.heap.size := (by omega))
              have hz2 := hb2.size
              have HF : Hid (LettersOwn ((((w2.setCell ⟨w.heap.size + 1 + 1, 1, none⟩ (.slice (some ⟨w2.heap.size, 0, none⟩) 1 1)).setCell ⟨w.heap.size + 1, 0, none⟩ (.slice xo k xc)).setCell ⟨w.heap.size + 1, 1, none⟩ (.slice (some ⟨w2.heap.size, 0, none⟩) 1 1)).alloc (.cells #[.slice (some ⟨g, 0, none⟩) 3 3] 39)) (w.heap.size + 3) (.slice xo ss.length xc) ss) := hSS.out _ fun z hz1 hz2 => by
                rw [Below.heap_alloc _ _ _ (by simp; omega), Below.heap_setCell _ _ _ _ (by show z ≠ w.heap.size + 1; omega), Below.heap_setCell _ _ _ _ (by show z ≠ w.heap.size + 1; omega), Below.heap_setCell _ _ _ _ (by show z ≠ w.heap.size + 1 + 1; omega), hb2.block z (by omega)]
                exact HKP.out z hz1 hz2
              have HN : Hid (LettersV ((((w2.setCell ⟨w.heap.size + 1 + 1, 1, none⟩ (.slice (some ⟨w2.heap.size, 0, none⟩) 1 1)).setCell ⟨w.heap.size + 1, 0, none⟩ (.slice xo k xc)).setCell ⟨w.heap.size + 1, 1, none⟩ (.slice (some ⟨w2.heap.size, 0, none⟩) 1 1)).alloc (.cells #[.slice (some ⟨g, 0, none⟩) 3 3] 39)) (.slice (some ⟨w2.heap.size, 0, none⟩) 1 1) [[x0, x1, x2]]) := by
                have hrow := (((owns_low (owns_low (owns_low HO3.out (p := ⟨w.heap.size + 1 + 1, 1, none⟩) (by show w.heap.size + 1 + 1 < _; omega) (.slice (some ⟨w2.heap.size, 0, none⟩) 1 1)) (p := ⟨w.heap.size + 1, 0, none⟩) (by show w.heap.size + 1 < _; omega) (.slice xo k xc)) (p := ⟨w.heap.size + 1, 1, none⟩) (by show w.heap.size + 1 < _; omega) (.slice (some ⟨w2.heap.size, 0, none⟩) 1 1))).alloc (.cells #[.slice (some ⟨g, 0, none⟩) 3 3] 39))
                refine ⟨[.slice (some ⟨g, 0, none⟩) 3 3], _, 1, rfl, fun h => by simp at h, ⟨rfl, fun i hi => ?_⟩, fun _ => ⟨w2.heap.size, 0, rfl, by simp, fun i hi => ?_⟩⟩
                · obtain rfl : i = 0 := by simpa using hi
                  exact boolsV_of_owns hrow
                · obtain rfl : i = 0 := by simpa using hi
                  have := cell_one_new (((w2.setCell ⟨w.heap.size + 1 + 1, 1, none⟩ (.slice (some ⟨w2.heap.size, 0, none⟩) 1 1)).setCell ⟨w.heap.size + 1, 0, none⟩ (.slice xo k xc)).setCell ⟨w.heap.size + 1, 1, none⟩ (.slice (some ⟨w2.heap.size, 0, none⟩) 1 1)) (.slice (some ⟨g, 0, none⟩) 3 3) 39 0 (.slice (some ⟨g, 0, none⟩) 3 3) rfl
                  simpa [Addr.add] using this
              have HBf : Hid (Below w.heap.size w ((((w2.setCell ⟨w.heap.size + 1 + 1, 1, none⟩ (.slice (some ⟨w2.heap.size, 0, none⟩) 1 1)).setCell ⟨w.heap.size + 1, 0, none⟩ (.slice xo k xc)).setCell ⟨w.heap.size + 1, 1, none⟩ (.slice (some ⟨w2.heap.size, 0, none⟩) 1 1)).alloc (.cells #[.slice (some ⟨g, 0, none⟩) 3 3] 39))) :=
                (((((HG.out w2 hb2).below.setCell (p := ⟨w.heap.size + 1 + 1, 1, none⟩) (by show w.heap.size ≤ w.heap.size + 1 + 1; omega) _).setCell (p := ⟨w.heap.size + 1, 0, none⟩) (by simp) _).setCell (p := ⟨w.heap.size + 1, 1, none⟩) (by simp) _)).alloc (by simp; omega) _
              refine bodyPost_ret (v := .agg #[.slice xo k xc, .slice (some ⟨w2.heap.size, 0, none⟩) 1 1]) ?_ rfl ⟨xo, xc, some ⟨w2.heap.size, 0, none⟩, 1, ss, [[x0, x1, x2]], by rw [HSL.out]; rfl, HBf.out, ⟨by rw [HSL.out]; exact hk5, by simp, by simp, H3.out, fun x hx => ?_⟩, HF.out.lettersV, HN.out⟩
              · simp [results, Tryd.results4, go_sem, g6, g7, hl1]
              · obtain rfl : x = [x0, x1, x2] := by simpa using hx
                rfl
            · have hqe : ((q : Int) == 0) = false := by simp; omega
              have HQ0 : Hid (q ≠ 0) := hq0
              have hlr1 : w.heap.size + 1 < wr.heap.size := by omega
              clear hq0
              rcases hcq with hcq | ⟨hcq, hcq2⟩
              all_goals
                go_wp2_with fail
                have HF : Hid (LettersOwn ((wr.setCell ⟨w.heap.size + 1, 0, none⟩ (.slice xo k xc)).setCell ⟨w.heap.size + 1, 1, none⟩ (.slice yo q yc)) (w.heap.size + 3) (.slice xo ss.length xc) ss) := hSS.out _ fun z hz1 hz2 => by
                  rw [Below.heap_setCell _ _ _ _ (by show z ≠ w.heap.size + 1; omega), Below.heap_setCell _ _ _ _ (by show z ≠ w.heap.size + 1; omega)]
                  exact HKP.out z hz1 hz2
                have HN : Hid (LettersV ((wr.setCell ⟨w.heap.size + 1, 0, none⟩ (.slice xo k xc)).setCell ⟨w.heap.size + 1, 1, none⟩ (.slice yo q yc)) (.slice yo ll.length yc) ll) := ((HO2.out.low (p := ⟨w.heap.size + 1, 0, none⟩) (by show w.heap.size + 1 < _; omega) _).low (p := ⟨w.heap.size + 1, 1, none⟩) (by show w.heap.size + 1 < _; omega) _).lettersV
                have HBf : Hid (Below w.heap.size w ((wr.setCell ⟨w.heap.size + 1, 0, none⟩ (.slice xo k xc)).setCell ⟨w.heap.size + 1, 1, none⟩ (.slice yo q yc))) := (HJ2.out.below.setCell (p := ⟨w.heap.size + 1, 0, none⟩) (by simp) _).setCell (p := ⟨w.heap.size + 1, 1, none⟩) (by simp) _
                refine bodyPost_ret (v := .agg #[.slice xo k xc, .slice yo q yc]) ?_ rfl ⟨xo, xc, yo, yc, ss, ll, by rw [HSL.out, HLL.out], HBf.out, ⟨by rw [HSL.out]; exact hk5, by rw [HLL.out]; have := HQ0.out; omega, by rw [HLL.out]; exact hq5, H3.out, HL3.out⟩, HF.out.lettersV, HN.out⟩
                simp [results, Tryd.results4, go_sem, f0, f1]
end Go.Proofs.YtoeagklgfaoejaaDoor
