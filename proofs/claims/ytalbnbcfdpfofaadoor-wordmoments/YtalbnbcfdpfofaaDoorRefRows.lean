/-
  The contract of the document's own rowsOf.
-/
import Derived.Test.YtalbnbcfdpfofaaDoorRefSaid2
namespace Go.Proofs.YtalbnbcfdpfofaaDoor
open Go.ChangeShapes Go.WideShapes Go.ChangeAt Go.RowKit Go.Deep
open Terms

/-- the rows behind a place are filled. -/
structure RoJ (w : World) (sv lv : Value) (n m RB k : Nat) (h : Nat → Nat → Bool) (W : World) : Prop where
  below : Below w.heap.size w W
  d0 : W.cell? ⟨w.heap.size, 0, none⟩ = some sv
  d1 : W.cell? ⟨w.heap.size, 1, none⟩ = some lv
  rows : ∃ f, W.rowIs RB 27 n f ∧ ∀ q, n - k ≤ q → q < n → ∃ rb rc, f q = .slice (some ⟨rb, 0, none⟩) m rc ∧ rb ≠ RB ∧ rb < W.heap.size ∧ ∀ j, j < m → W.cell? ⟨rb, j, none⟩ = some (.bool (h q j))
  hW : w.heap.size < RB
theorem RoJ.later {w : World} {sv lv : Value} {n m RB k : Nat} {h : Nat → Nat → Bool} {W W' : World} (s : RoJ w sv lv n m RB k h W) (hb : Below W.heap.size W W') : RoJ w sv lv n m RB k h W' := by
  obtain ⟨f, h1, h2⟩ := s.rows
  have hl := h1.lt
  have := s.hW
  refine ⟨s.below.trans (hb.mono s.below.size), (hb.cell (p := ⟨w.heap.size, 0, none⟩) (by show w.heap.size < _; omega)).trans s.d0, (hb.cell (p := ⟨w.heap.size, 1, none⟩) (by show w.heap.size < _; omega)).trans s.d1, ⟨f, row_later h1 hb, fun q a b => ?_⟩, s.hW⟩
  obtain ⟨rb, rc, e1, e2, e3, e4⟩ := h2 q a b
  exact ⟨rb, rc, e1, e2, Nat.lt_of_lt_of_le e3 hb.size, fun j hj => (hb.cell (p := ⟨rb, j, none⟩) e3).trans (e4 j hj)⟩
theorem RoJ.put {w : World} {sv lv : Value} {n m RB k : Nat} {h : Nat → Nat → Bool} {W : World} (s : RoJ w sv lv n m RB k h W) (rb rc : Nat) (hne : rb ≠ RB) (hlt : rb < W.heap.size) (hc : ∀ j, j < m → W.cell? ⟨rb, j, none⟩ = some (.bool (h (n - 1 - k) j))) : RoJ w sv lv n m RB (k + 1) h (W.setCell ⟨RB, n - 1 - k, none⟩ (.slice (some ⟨rb, 0, none⟩) m rc)) := by
  have ho : ∀ (z j : Nat), z ≠ RB → (W.setCell ⟨RB, n - 1 - k, none⟩ (.slice (some ⟨rb, 0, none⟩) m rc)).cell? ⟨z, j, none⟩ = W.cell? ⟨z, j, none⟩ := fun z j hz => World.cell?_setCell_other _ _ _ _ (by intro e; injection e with e1 _; exact hz e1.symm)
  have hsz : (W.setCell ⟨RB, n - 1 - k, none⟩ (.slice (some ⟨rb, 0, none⟩) m rc)).heap.size = W.heap.size := by simp
  have hw := s.hW
  obtain ⟨f, h1, h2⟩ := s.rows
  refine ⟨s.below.setCell (by show w.heap.size ≤ RB; omega) _, (ho _ _ (by omega)).trans s.d0, (ho _ _ (by omega)).trans s.d1, ⟨_, h1.set (n - 1 - k) _, fun q a b => ?_⟩, s.hW⟩
  by_cases hq : q = n - 1 - k
  · subst hq
    exact ⟨rb, rc, if_pos rfl, hne, by rw [hsz]; exact hlt, fun j hj => (ho _ _ hne).trans (hc j hj)⟩
  · obtain ⟨r, c, e1, e2, e3, e4⟩ := h2 q (by omega) b
    exact ⟨r, c, (if_neg hq).trans e1, e2, by rw [hsz]; exact e3, fun j hj => (ho _ _ e2).trans (e4 j hj)⟩

set_option maxHeartbeats 3200000 in
set_option maxRecDepth 20000 in
/-- THE CONTRACT OF rowsOf. -/
theorem rows_any (b off n cap : Nat) (so lo : Option Addr) (sn sc ln lc m : Nat) (l : List (Int × Int)) (ss ll : List (List Bool)) (t : Tm) (props : Int) (w : World) (hw : t.Wf) (hl : t.ops = l) (hln : l.length = n) (hn : n ≤ 60) (hz : endsCode (l.map Prod.fst) = 0) (hpr : ∀ q, q < n → lopErr props (l.getD q (0, 0)) = 0) (hls : ∀ j, j < (ss ++ ll).length → (((ss ++ ll).getD j []).length : Int) = props)
    (hsn : sn = ss.length) (hlnn : ln = ll.length) (h12 : sn ≤ 12) (hl1 : 1 ≤ ln) (hl12 : ln ≤ 12) (hm : m = sn + ln) (hS : LettersV w (.slice so sn sc) ss) (hL : LettersV w (.slice lo ln lc) ll) (hat : OpsAt w b off l) (hbl : b < w.heap.size) :
    Calls Tryd.prog 17 #[.slice (some ⟨b, off, none⟩) n cap, .agg #[.slice so sn sc, .slice lo ln lc]] w fun e w' => e = .returned (.slice (some ⟨w.heap.size + 1, 0, none⟩) n n) ∧ RoJ w (.slice so sn sc) (.slice lo ln lc) n m (w.heap.size + 1) n (fun q => (t.sub q).hb (sig (ss ++ ll) sn)) w' := by
  have hmk := run_make_row' (P := Tryd.prog) 23 27 (.slice none 0 0) 24 Tryd.underlying23 infoBools rfl .i64 .i64 n (by omega) (by omega)
  obtain ⟨RB, hRB⟩ : ∃ RB, RB = w.heap.size + 1 := ⟨_, rfl⟩
  obtain ⟨h, hh⟩ : ∃ h : Nat → Nat → Bool, h = fun q => (t.sub q).hb (sig (ss ++ ll) sn) := ⟨_, rfl⟩
  rw [← hh]
  have HSa : Hid (∀ (W : World) (k i : Nat), RoJ w (.slice so sn sc) (.slice lo ln lc) n m RB k h W → k < n → i < m → Calls Tryd.prog 29 #[.slice (some ⟨b, off, none⟩) n cap, .agg #[.slice so sn sc, .slice lo ln lc], .slice (some ⟨RB, 0, none⟩) n n, .int .i64 ((n - 1 - k : Nat) : Int), .int .i64 (i : Int)] W fun e w' => e = .returned (.bool (h (n - 1 - k) i)) ∧ Below W.heap.size W w') := fun W k i s hk hi => by
    obtain ⟨f, h1, h2⟩ := s.rows
    rw [hh] at h2 ⊢
    refine said_any b off n cap RB (n - 1 - k) so lo sn sc ln lc i m l ss ll t props W hw hl hln hn hz (by omega) hpr hls hsn hlnn h12 hl1 hl12 hm hi (hS.below s.below) (hL.below s.below) ⟨hat.below s.below hbl, Nat.lt_of_lt_of_le hbl s.below.size, fun q a b => ?_, h1.lt⟩
    obtain ⟨rb, rc, e1, e2, e3, e4⟩ := h2 q (by omega) b
    exact ⟨rb, 0, rc, by rw [h1.cell b, e1], e3, fun j hj => by rw [Nat.zero_add]; exact e4 j hj⟩
  obtain ⟨V0, hV0⟩ : ∃ V0, V0 = (w.alloc (.cells #[.slice so sn sc, .slice lo ln lc] 25)).alloc (.cells (madeCells #[.slice none 0 0] n) 27) := ⟨_, rfl⟩
  have HV : Hid (V0 = (w.alloc (.cells #[.slice so sn sc, .slice lo ln lc] 25)).alloc (.cells (madeCells #[.slice none 0 0] n) 27)) := hV0
  have HR : Hid (RB = w.heap.size + 1) := hRB
  have HJ0 : Hid (RoJ w (.slice so sn sc) (.slice lo ln lc) n m RB 0 h V0) := by
    refine ⟨by rw [hV0]; exact ((Below.refl _ _).alloc (Nat.le_refl _) _).alloc (by simp) _, by rw [hV0]; simp [go_sem], by rw [hV0]; simp [go_sem], ⟨fun _ => .slice none 0 0, ?_, fun q a b => by omega⟩, by omega⟩
    rw [hV0, hRB]
    have r := World.rowIs_made (w.alloc (.cells #[.slice so sn sc, .slice lo ln lc] 25)) (.slice none 0 0) n 27
    simpa using r
  have HM : Hid (m = sn + ln) := hm
  have hmi : (sn : Int) + (ln : Int) = (m : Int) := by omega
  have hm24 : m ≤ 24 := by omega
  have HML : Hid (∀ (x : Nat → Bool) k, bvals ((List.range (k + 1)).map x) = bvals ((List.range k).map x) ++ [.bool (x k)]) := fun x k => by
    rw [List.range_succ, List.map_append]
    unfold bvals
    rw [List.map_append]
    rfl
  obtain ⟨i0, hi, hz0, hz1, hz2⟩ := info_parts infoBool
  clear hS hL hat hls hpr hw hl hln hz hV0 hRB hsn hlnn hm hh
  go_enter Tryd.func17, Tryd.ntmps17
  go_wp2_with fail
  rw [← HV.out, ← HR.out]
  clear hmk
  try rw [hmi]
  go_loopw [7] (fun a wr => ∃ k : Nat, k ≤ n ∧ a = .int .i64 ((n : Int) - 1 - (k : Int)) ∧ Hid (RoJ w (.slice so sn sc) (.slice lo ln lc) n m RB k h wr)) (fun a _ => (intOf a + 1).toNat)
  case atStart => exact ⟨0, Nat.zero_le _, by simp, HJ0.out⟩
  case round =>
    obtain ⟨k, hk, rfl, HJ⟩ := hrel
    by_cases hlt : k < n
    · obtain ⟨p, hp⟩ : ∃ p : Nat, p = n - 1 - k := ⟨_, rfl⟩
      have hpi : (n : Int) - 1 - (k : Int) = (p : Int) := by omega
      have HPI : Hid ((n : Int) - 1 - (k : Int) = (p : Int)) := hpi
      have HP : Hid (p = n - 1 - k) := hp
      have hpn : p < n := by omega
      have HSk : Hid (∀ (W : World) (i : Nat), RoJ w (.slice so sn sc) (.slice lo ln lc) n m RB k h W → i < m → Calls Tryd.prog 29 #[.slice (some ⟨b, off, none⟩) n cap, .agg #[.slice so sn sc, .slice lo ln lc], .slice (some ⟨RB, 0, none⟩) n n, .int .i64 (p : Int), .int .i64 (i : Int)] W fun e w' => e = .returned (.bool (h p i)) ∧ Below W.heap.size W w') := fun W i s hi => by
        have := HSa.out W k i s hlt hi
        rw [← hp] at this
        exact this
      rw [hpi]
      clear hp hpi
      generalize wr = wo at *
      go_wp2_with fail
      go_loopw [8, 9] (fun out i wr => ∃ j : Nat, j ≤ m ∧ i = .int .i64 (j : Int) ∧ Hid (wr.ownsRow wo.heap.size 4 1 out j (bvals ((List.range j).map (h p)))) ∧ Hid (Below wo.heap.size wo wr)) (fun _ i _ => m - (intOf i).toNat)
      case atStart => exact ⟨0, Nat.zero_le _, rfl, World.ownsRow_nil _ _ _ _, Below.refl _ _⟩
      case round =>
        obtain ⟨j, hj, rfl, HOwn, HBel⟩ := hrel
        have hbel := HBel.out
        have hJr := HJ.out.later hbel
        by_cases hlj : j < m
        · have hsd := HSk.out wr j hJr hlj
          have d0 := hJr.d0
          have d1 := hJr.d1
          have hown := HOwn.out
          have hnb := hown.lt
          obtain ⟨oo, oc, rfl⟩ := owns_slice hown
          have h63 : j + 1 ≤ maxLen := by unfold maxLen; omega
          have hkb : (j + 1) * 1 ≤ 140737488355328 := by omega
          have HEl : Hid (bvals ((List.range (j + 1)).map (h p)) = bvals ((List.range j).map (h p)) ++ [.bool (h p j)]) := HML.out (h p) j
          clear hJr
          go_wp2_with (first | (go_at_call 29; refine hsd.mono ?_; rintro e w4 ⟨rfl, hb4⟩; have hb34 := hbel.trans (hb4.mono hbel.size); have hown3 := fun o => (owns_later hown hb4 (Nat.le_refl _)).alloc o; have hbase : ∀ o, wo.heap.size ≤ (w4.alloc o).heap.size := (fun o => by have := hb34.size; simp; omega)) | (at_builtin; refine wpList_append_own _ rfl (.tmp 39) (.tmp 41) 27 rfl wo.heap.size 4 i0 (.bool false) 1 1 Tryd.underlying27 hi hz0 hz1 hz2 rfl (by decide) _ j _ rfl (hown3 _) ⟨w4.heap.size, 0, none⟩ 1 1 [.bool (h p j)] rfl rfl (cell_one_new _ _ _) (by intro u hu; simp at hu; subst hu; rfl) h63 hkb (hbase _) ?_; intro v' w5 hown' hgrow _))
          have hb5 : Below wo.heap.size wo w5 := (hb34.alloc hb34.size _).grown hgrow (hbase _) (fun z hz => (hnb z hz).1)
          have HO5 : Hid (w5.ownsRow wo.heap.size 4 1 v' (j + 1) (bvals ((List.range (j + 1)).map (h p)))) := by
            show World.ownsRow _ _ _ _ _ _ _
            rw [HEl.out]
            exact hown'
          clear hown' hgrow hown3
          exact ⟨⟨j + 1, hlj, by first | rfl | simp, HO5.out, hb5⟩, by simp [intOf]; omega⟩
        · obtain rfl : j = m := by omega
          have hown := HOwn.out
          obtain ⟨f, hr1, hr2⟩ := hJr.rows
          have c0 := hr1.cell hpn
          have f0 := hr1.frozen p
          have hRl : RB < wo.heap.size := by obtain ⟨_, h1, _⟩ := HJ.out.rows; exact h1.lt
          have hm1 := HM.out
          rcases id hown.2 with ⟨_, e0⟩ | ⟨g, gc, cur, rfl, hgb, hgg, _, _, _, _⟩
          · omega
          have hgl : g < wr.heap.size := (Array.getElem?_eq_some_iff.1 hgg).1
          have HN : Hid (RoJ w (.slice so sn sc) (.slice lo ln lc) n j RB (k + 1) h (wr.setCell ⟨RB, p, none⟩ (.slice (some ⟨g, 0, none⟩) j gc))) := by
            show RoJ _ _ _ _ _ _ _ _ _
            rw [HP.out]
            refine hJr.put g gc (by omega) hgl fun i hij => ?_
            have := hown.cellAt i (by omega)
            rw [this, ← HP.out]
            simp [bvals, hij]
          clear hr1 hr2 hown hgg hm1 hJr hbel
          go_wp2_with fail
          have he : (p : Int) - 1 = (n : Int) - 1 - ((k + 1 : Nat) : Int) := by have := HPI.out; omega
          exact ⟨⟨k + 1, by omega, by rw [he], HN⟩, by simp [intOf]⟩
    · have hkn : (n : Int) - 1 - (k : Int) = -1 := by omega
      have hke : k = n := by omega
      have HF : Hid (RoJ w (.slice so sn sc) (.slice lo ln lc) n m RB n h wr) := by
        have hx := HJ.out
        rw [hke] at hx
        exact hx
      rw [hkn]
      clear hkn hke
      go_wp2_with fail
      go_ret
      exact ⟨by rw [← HR.out]; rfl, by rw [← HR.out]; exact HF.out⟩
end Go.Proofs.YtalbnbcfdpfofaaDoor
