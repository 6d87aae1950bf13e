/-
  Joined out of RefSaid2, RefRows, RefMom, RefClm, RefClm2, in their order: a claim bears at most so many files.
-/
import Derived.Test.YtalbnbcfdpfofaaDoorRefSaid
import Derived.Test.YtalbnbcfdpfofaaDoorLogicT
import Derived.Test.YtalbnbcfdpfofaaDoorWMom
import Derived.Test.YtalbnbcfdpfofaaDoorWClm
import Derived.Test.YtalbnbcfdpfofaaDoorRefAhead
/-
  The contract of the document's own said, by the tree.
-/
namespace Go.Proofs.YtalbnbcfdpfofaaDoor
open Go.ChangeShapes Go.WideShapes Go.ChangeAt Go.RowKit Go.Deep
open Terms

set_option maxHeartbeats 3200000 in
set_option maxRecDepth 20000 in
/-- THE CONTRACT OF said. -/
theorem said_any (b off n cap RB p : Nat) (so lo : Option Addr) (sn sc ln lc i m : Nat) (l : List (Int × Int)) (ss ll : List (List Bool)) (t : Tm) (props : Int) (w : World) (hw : t.Wf) (hl : t.ops = l) (hln : l.length = n) (hn : n ≤ 60) (hz : endsCode (l.map Prod.fst) = 0) (hp : p < n) (hpr : ∀ q, q < n → lopErr props (l.getD q (0, 0)) = 0) (hls : ∀ j, j < (ss ++ ll).length → (((ss ++ ll).getD j []).length : Int) = props)
    (hsn : sn = ss.length) (hlnn : ln = ll.length) (h12 : sn ≤ 12) (hl1 : 1 ≤ ln) (hl12 : ln ≤ 12) (hm : m = sn + ln) (him : i < m) (hS : LettersV w (.slice so sn sc) ss) (hL : LettersV w (.slice lo ln lc) ll)
    (hI : SaIn w b off n RB m p l (fun q => (t.sub q).hb (sig (ss ++ ll) sn))) :
    Calls Tryd.prog 29 #[.slice (some ⟨b, off, none⟩) n cap, .agg #[.slice so sn sc, .slice lo ln lc], .slice (some ⟨RB, 0, none⟩) n n, .int .i64 (p : Int), .int .i64 (i : Int)] w fun e w' => e = .returned (.bool ((t.sub p).hb (sig (ss ++ ll) sn) i)) ∧ Below w.heap.size w w' := by
  have hsz : t.size = n := by rw [← t.ops_length, hl, hln]
  have hpt : p < t.size := by omega
  have hop := t.op_at hpt (0, 0)
  rw [hl] at hop
  obtain ⟨c0, c1⟩ := hI.ops p (by omega)
  have he := hpr p hp
  rw [hop] at c0 c1 he
  simp only at c0 c1
  have hsw := Tm.sub_wf hw p
  have hki := fun i (hi : i < (t.sub p).kids.length) => Tm.kid_in hw hpt hi
  have hlen : (ss ++ ll).length = m := by rw [List.length_append]; omega
  have hss : sn < (ss ++ ll).length := by omega
  have hper := sig_per hss
  rw [hlen] at hper
  have hmo : ∀ (x : Tm) j, x.hb (sig (ss ++ ll) sn) (moAt sn m j) = x.hb (sig (ss ++ ll) sn) j := fun x j => by have := hb_mo hss x j; rwa [hlen] at this
  have hi24 : i < 24 := by omega
  have hsec : sec l p = endAt (t.ops.map Prod.fst) (p + 1) := by unfold sec; rw [hl]
  have hscan : ∀ {u v : Nat → Bool} {d : Bool}, (∀ j, sn ≤ j → u (j + (m - sn)) = u j) → (∀ j, sn ≤ j → v (j + (m - sn)) = v j) → stp u v d (m + 1) i = untB u v d i := fun hu hv => scan_is (by omega) hu hv i
  cases hx : t.sub p with
  | leaf k v =>
    rw [hx] at c0 c1 he hsw
    simp only [Tm.kind, Tm.val] at c0 c1 he
    have hk : k = 13 ∨ k = 11 ∨ k = 12 := by
      obtain ⟨h1, h2⟩ := hsw
      simp only [okK, decide_eq_true_eq] at h1
      simp only [lopErr] at he
      simp only [pn] at h2
      split at he
      · omega
      · split at h2
        · omega
        · split at h2 <;> omega
    rcases hk with rfl | rfl | rfl
    · have hv : 0 ≤ v ∧ v < props := by
        by_cases hh : v < 0 ∨ props - 1 < v
        · exfalso; simp [lopErr, hh] at he
        · omega
      obtain ⟨uo, uc, hbv, hla⟩ := letterAt_ex so lo sn sc ln lc ss ll i w hsn hlnn h12 hl1 hl12 (by omega) hS hL
      have hmi : moAt sn (sn + ln) i = i := moAt_low (by omega)
      have hsg : sig (ss ++ ll) sn i v.toNat = ((ss ++ ll).getD i []).getD v.toNat false := by unfold sig; rw [hlen, moAt_low him]
      rw [hmi] at hbv hla
      have hle := hls i (by omega)
      rw [Tm.hb_prop, hsg]
      generalize (ss ++ ll).getD i [] = x at *
      have hvx : v.toNat < x.length := by omega
      obtain ⟨ao, ac, e1, e2⟩ := hbv
      obtain ⟨rfl, rfl⟩ : uo = ao ∧ uc = ac := by injection e1 with e1 _ e3; exact ⟨e1, e3⟩
      obtain ⟨ub, uof, rfl, hub, hua⟩ := e2 (by rintro rfl; simp at hvx)
      exact said_13 b off n cap RB p so lo sn sc ln lc v i w hp h12 hl12 hi24 c0 hI.hb c1 ⟨ub, uof, none⟩ x.length uc (x.getD v.toNat false) hv.1 (by omega) hub (fun w1 hb1 => (hb1.cell (p := ⟨ub, uof + v.toNat, none⟩) hub).trans (hua v.toNat hvx)) rfl hla
    · rw [Tm.hb_yes]
      exact said_11 b off n cap RB p so lo sn sc ln lc i w hp h12 hl12 hi24 c0 hI.hb
    · rw [Tm.hb_no _ _ _ (by decide) (by decide)]
      exact said_12 b off n cap RB p so lo sn sc ln lc i w hp h12 hl12 hi24 c0 hI.hb
  | un k v a =>
    rw [hx] at c0 c1 he hsw hki
    simp only [Tm.kind, Tm.val] at c0 c1 he
    obtain ⟨k1, k2, _⟩ := hki 0 (by simp [Tm.kids])
    rw [Tm.koff_zero] at k1 k2
    have hp1 : p + 1 < n := by omega
    have ha : t.sub (p + 1) = a := k2
    have hk : k = 10 ∨ k = 14 ∨ k = 17 ∨ k = 18 := by
      obtain ⟨h1, h2, _⟩ := hsw
      simp only [pn] at h2
      split at h2
      · omega
      · split at h2 <;> omega
    obtain ⟨rb, ro, rc, r0, hrb, r1⟩ := hI.rows (p + 1) (by omega) hp1
    simp only [ha] at r1
    rcases hk with rfl | rfl | rfl | rfl
    · rw [Tm.hb_not]
      exact said_10 b off n cap RB p so lo sn sc ln lc i w h12 hl12 hi24 c0 hI.hb m rb ro rc _ him hp1 hn r0 (r1 i him) hI.hR hrb
    · rw [Tm.hb_next, ← hmo a (i + 1)]
      exact said_14 b off n cap RB p so lo sn sc ln lc i w h12 hl12 hi24 c0 hI.hb m rb ro rc _ hm hl1 him hp1 hn r0 r1 hI.hR hrb
    · rw [Tm.hb_fin, ← hscan (fun j hj => Tm.hb_per hper a hj) (fun _ _ => rfl)]
      exact said_17 b off n cap RB p so lo sn sc ln lc i w h12 hl12 hi24 c0 hI.hb m rb ro rc _ hm hl1 him hp1 hn r0 r1 (hmo a) hI.hR hrb
    · rw [Tm.hb_glob, ← hscan (fun _ _ => rfl) (fun j hj => Tm.hb_per hper a hj)]
      exact said_18 b off n cap RB p so lo sn sc ln lc i w h12 hl12 hi24 c0 hI.hb m rb ro rc _ hm hl1 him hp1 hn r0 r1 (hmo a) hI.hR hrb
  | bi k v a b' =>
    have hop2 : pn (l.getD p (0, 0)).1 = 2 := by rw [hop, hx]; rw [hx] at hsw; exact hsw.2.1
    rw [hx] at c0 c1 he hsw hki
    simp only [Tm.kind, Tm.val] at c0 c1 he
    obtain ⟨k1, k2, k3, k4, k5, k6⟩ := hki 0 (by simp [Tm.kids])
    obtain ⟨j1, j2, _⟩ := hki 1 (by simp [Tm.kids])
    rw [Tm.koff_zero] at k1 k2 k3
    have hp1 : p + 1 < n := by omega
    have ha : t.sub (p + 1) = a := k2
    have hse : sec l p = p + (Tm.bi k v a b').koff 1 := by rw [hsec]; exact k3
    have hs1 : p < sec l p := by rw [hse, Tm.koff]; omega
    have hs2 : sec l p < n := by rw [hse]; omega
    have hb' : t.sub (sec l p) = b' := by rw [hse]; exact j2
    have hk : k = 8 ∨ k = 9 ∨ k = 15 ∨ k = 16 := by
      obtain ⟨h1, h2, _⟩ := hsw
      simp only [lopErr] at he
      simp only [pn] at h2
      split at he
      · omega
      · split at h2
        · omega
        · split at h2
          · omega
          · omega
    obtain ⟨rb, ro, rc, r0, hrb, r1⟩ := hI.rows (p + 1) (by omega) hp1
    obtain ⟨rb2, ro2, rc2, r2, hrb2, r3⟩ := hI.rows (sec l p) hs1 hs2
    simp only [ha] at r1
    simp only [hb'] at r3
    have hsc : ∀ w1, Below w.heap.size w w1 → Calls Tryd.prog 53 #[.slice (some ⟨b, off, none⟩) n cap, .int .i64 (p : Int)] w1 fun e w2 => e = .returned (.int .i64 (sec l p : Int)) ∧ w2 = w1 := fun w1 hb1 => by
      have := rsec_any b off cap p l w1 (by omega) hz (by omega) hop2 (hI.ops.below hb1 hI.hb)
      rwa [hln] at this
    rcases hk with rfl | rfl | rfl | rfl
    · rw [Tm.hb_and]
      exact said_8 b off n cap RB p so lo sn sc ln lc i w h12 hl12 hi24 c0 hI.hb m rb ro rc rb2 ro2 rc2 (sec l p) _ _ hm hl1 him hp1 hs2 hn r0 r1 r2 r3 hI.hR hrb hrb2 hsc
    · rw [Tm.hb_or]
      exact said_9 b off n cap RB p so lo sn sc ln lc i w h12 hl12 hi24 c0 hI.hb m rb ro rc rb2 ro2 rc2 (sec l p) _ _ hm hl1 him hp1 hs2 hn r0 r1 r2 r3 hI.hR hrb hrb2 hsc
    · rw [Tm.hb_until, ← hscan (fun j hj => Tm.hb_per hper b' hj) (fun j hj => Tm.hb_per hper a hj)]
      exact said_15 b off n cap RB p so lo sn sc ln lc i w h12 hl12 hi24 c0 hI.hb m rb ro rc rb2 ro2 rc2 (sec l p) _ _ hm hl1 him hp1 hs2 hn r0 r1 r2 r3 hI.hR hrb hrb2 hsc (hmo a) (hmo b')
    · rw [Tm.hb_rel, ← hscan (fun j hj => by simp only [Tm.hb_per hper a hj, Tm.hb_per hper b' hj]) (fun j hj => Tm.hb_per hper b' hj)]
      exact said_16 b off n cap RB p so lo sn sc ln lc i w h12 hl12 hi24 c0 hI.hb m rb ro rc rb2 ro2 rc2 (sec l p) _ _ hm hl1 him hp1 hs2 hn r0 r1 r2 r3 hI.hR hrb hrb2 hsc (hmo a) (hmo b')
end Go.Proofs.YtalbnbcfdpfofaaDoor

/-
  The contract of the document's own rowsOf.
-/
namespace Go.Proofs.YtalbnbcfdpfofaaDoor
open Go.ChangeShapes Go.WideShapes Go.ChangeAt Go.RowKit Go.Deep
open Terms

/-- the rows behind a place are filled. -/
structure RoJ (w : World) (sv lv : Value) (n m RB k : Nat) (h : Nat → Nat → Bool) (W : World) : Prop where
  below : Below w.heap.size w W
  d0 : W.cell? ⟨w.heap.size, 0, none⟩ = some sv
  d1 : W.cell? ⟨w.heap.size, 1, none⟩ = some lv
  rows : ∃ f, W.rowIs RB 27 n f ∧ ∀ q, n - k ≤ q → q < n → ∃ rb rc, f q = .slice (some ⟨rb, 0, none⟩) m rc ∧ rb ≠ RB ∧ rb < W.heap.size ∧ ∀ j, j < m → W.cell? ⟨rb, j, none⟩ = some (.bool (h q j))
  hW : w.heap.size < RB
theorem RoJ.later {w : World} {sv lv : Value} {n m RB k : Nat} {h : Nat → Nat → Bool} {W W' : World} (s : RoJ w sv lv n m RB k h W) (hb : Below W.heap.size W W') : RoJ w sv lv n m RB k h W' := by
  obtain ⟨f, h1, h2⟩ := s.rows
  have hl := h1.lt
  have := s.hW
  refine ⟨s.below.trans (hb.mono s.below.size), (hb.cell (p := ⟨w.heap.size, 0, none⟩) (by show w.heap.size < _; omega)).trans s.d0, (hb.cell (p := ⟨w.heap.size, 1, none⟩) (by show w.heap.size < _; omega)).trans s.d1, ⟨f, row_later h1 hb, fun q a b => ?_⟩, s.hW⟩
  obtain ⟨rb, rc, e1, e2, e3, e4⟩ := h2 q a b
  exact ⟨rb, rc, e1, e2, Nat.lt_of_lt_of_le e3 hb.size, fun j hj => (hb.cell (p := ⟨rb, j, none⟩) e3).trans (e4 j hj)⟩
theorem RoJ.put {w : World} {sv lv : Value} {n m RB k : Nat} {h : Nat → Nat → Bool} {W : World} (s : RoJ w sv lv n m RB k h W) (rb rc : Nat) (hne : rb ≠ RB) (hlt : rb < W.heap.size) (hc : ∀ j, j < m → W.cell? ⟨rb, j, none⟩ = some (.bool (h (n - 1 - k) j))) : RoJ w sv lv n m RB (k + 1) h (W.setCell ⟨RB, n - 1 - k, none⟩ (.slice (some ⟨rb, 0, none⟩) m rc)) := by
  have ho : ∀ (z j : Nat), z ≠ RB → (W.setCell ⟨RB, n - 1 - k, none⟩ (.slice (some ⟨rb, 0, none⟩) m rc)).cell? ⟨z, j, none⟩ = W.cell? ⟨z, j, none⟩ := fun z j hz => World.cell?_setCell_other _ _ _ _ (by intro e; injection e with e1 _; exact hz e1.symm)
  have hsz : (W.setCell ⟨RB, n - 1 - k, none⟩ (.slice (some ⟨rb, 0, none⟩) m rc)).heap.size = W.heap.size := by simp
  have hw := s.hW
  obtain ⟨f, h1, h2⟩ := s.rows
  refine ⟨s.below.setCell (by show w.heap.size ≤ RB; omega) _, (ho _ _ (by omega)).trans s.d0, (ho _ _ (by omega)).trans s.d1, ⟨_, h1.set (n - 1 - k) _, fun q a b => ?_⟩, s.hW⟩
  by_cases hq : q = n - 1 - k
  · subst hq
    exact ⟨rb, rc, if_pos rfl, hne, by rw [hsz]; exact hlt, fun j hj => (ho _ _ hne).trans (hc j hj)⟩
  · obtain ⟨r, c, e1, e2, e3, e4⟩ := h2 q (by omega) b
    exact ⟨r, c, (if_neg hq).trans e1, e2, by rw [hsz]; exact e3, fun j hj => (ho _ _ e2).trans (e4 j hj)⟩

set_option maxHeartbeats 3200000 in
set_option maxRecDepth 20000 in
/-- THE CONTRACT OF rowsOf. -/
theorem rows_any (b off n cap : Nat) (so lo : Option Addr) (sn sc ln lc m : Nat) (l : List (Int × Int)) (ss ll : List (List Bool)) (t : Tm) (props : Int) (w : World) (hw : t.Wf) (hl : t.ops = l) (hln : l.length = n) (hn : n ≤ 60) (hz : endsCode (l.map Prod.fst) = 0) (hpr : ∀ q, q < n → lopErr props (l.getD q (0, 0)) = 0) (hls : ∀ j, j < (ss ++ ll).length → (((ss ++ ll).getD j []).length : Int) = props)
    (hsn : sn = ss.length) (hlnn : ln = ll.length) (h12 : sn ≤ 12) (hl1 : 1 ≤ ln) (hl12 : ln ≤ 12) (hm : m = sn + ln) (hS : LettersV w (.slice so sn sc) ss) (hL : LettersV w (.slice lo ln lc) ll) (hat : OpsAt w b off l) (hbl : b < w.heap.size) :
    Calls Tryd.prog 17 #[.slice (some ⟨b, off, none⟩) n cap, .agg #[.slice so sn sc, .slice lo ln lc]] w fun e w' => e = .returned (.slice (some ⟨w.heap.size + 1, 0, none⟩) n n) ∧ RoJ w (.slice so sn sc) (.slice lo ln lc) n m (w.heap.size + 1) n (fun q => (t.sub q).hb (sig (ss ++ ll) sn)) w' := by
  have hmk := run_make_row' (P := Tryd.prog) 23 27 (.slice none 0 0) 24 Tryd.underlying23 infoBools rfl .i64 .i64 n (by omega) (by omega)
  obtain ⟨RB, hRB⟩ : ∃ RB, RB = w.heap.size + 1 := ⟨_, rfl⟩
  obtain ⟨h, hh⟩ : ∃ h : Nat → Nat → Bool, h = fun q => (t.sub q).hb (sig (ss ++ ll) sn) := ⟨_, rfl⟩
  rw [← hh]
  have HSa : Hid (∀ (W : World) (k i : Nat), RoJ w (.slice so sn sc) (.slice lo ln lc) n m RB k h W → k < n → i < m → Calls Tryd.prog 29 #[.slice (some ⟨b, off, none⟩) n cap, .agg #[.slice so sn sc, .slice lo ln lc], .slice (some ⟨RB, 0, none⟩) n n, .int .i64 ((n - 1 - k : Nat) : Int), .int .i64 (i : Int)] W fun e w' => e = .returned (.bool (h (n - 1 - k) i)) ∧ Below W.heap.size W w') := fun W k i s hk hi => by
    obtain ⟨f, h1, h2⟩ := s.rows
    rw [hh] at h2 ⊢
    refine said_any b off n cap RB (n - 1 - k) so lo sn sc ln lc i m l ss ll t props W hw hl hln hn hz (by omega) hpr hls hsn hlnn h12 hl1 hl12 hm hi (hS.below s.below) (hL.below s.below) ⟨hat.below s.below hbl, Nat.lt_of_lt_of_le hbl s.below.size, fun q a b => ?_, h1.lt⟩
    obtain ⟨rb, rc, e1, e2, e3, e4⟩ := h2 q (by omega) b
    exact ⟨rb, 0, rc, by rw [h1.cell b, e1], e3, fun j hj => by rw [Nat.zero_add]; exact e4 j hj⟩
  obtain ⟨V0, hV0⟩ : ∃ V0, V0 = (w.alloc (.cells #[.slice so sn sc, .slice lo ln lc] 25)).alloc (.cells (madeCells #[.slice none 0 0] n) 27) := ⟨_, rfl⟩
  have HV : Hid (V0 = (w.alloc (.cells #[.slice so sn sc, .slice lo ln lc] 25)).alloc (.cells (madeCells #[.slice none 0 0] n) 27)) := hV0
  have HR : Hid (RB = w.heap.size + 1) := hRB
  have HJ0 : Hid (RoJ w (.slice so sn sc) (.slice lo ln lc) n m RB 0 h V0) := by
    refine ⟨by rw [hV0]; exact ((Below.refl _ _).alloc (Nat.le_refl _) _).alloc (by simp) _, by rw [hV0]; simp [go_sem], by rw [hV0]; simp [go_sem], ⟨fun _ => .slice none 0 0, ?_, fun q a b => by omega⟩, by omega⟩
    rw [hV0, hRB]
    have r := World.rowIs_made (w.alloc (.cells #[.slice so sn sc, .slice lo ln lc] 25)) (.slice none 0 0) n 27
    simpa using r
  have HM : Hid (m = sn + ln) := hm
  have hmi : (sn : Int) + (ln : Int) = (m : Int) := by omega
  have hm24 : m ≤ 24 := by omega
  have HML : Hid (∀ (x : Nat → Bool) k, bvals ((List.range (k + 1)).map x) = bvals ((List.range k).map x) ++ [.bool (x k)]) := fun x k => by
    rw [List.range_succ, List.map_append]
    unfold bvals
    rw [List.map_append]
    rfl
  obtain ⟨i0, hi, hz0, hz1, hz2⟩ := info_parts infoBool
  clear hS hL hat hls hpr hw hl hln hz hV0 hRB hsn hlnn hm hh
  go_enter Tryd.func17, Tryd.ntmps17
  go_wp2_with fail
  rw [← HV.out, ← HR.out]
  clear hmk
  try rw [hmi]
  go_loopw [7] (fun a wr => ∃ k : Nat, k ≤ n ∧ a = .int .i64 ((n : Int) - 1 - (k : Int)) ∧ Hid (RoJ w (.slice so sn sc) (.slice lo ln lc) n m RB k h wr)) (fun a _ => (intOf a + 1).toNat)
  case atStart => exact ⟨0, Nat.zero_le _, by simp, HJ0.out⟩
  case round =>
    obtain ⟨k, hk, rfl, HJ⟩ := hrel
    by_cases hlt : k < n
    · obtain ⟨p, hp⟩ : ∃ p : Nat, p = n - 1 - k := ⟨_, rfl⟩
      have hpi : (n : Int) - 1 - (k : Int) = (p : Int) := by omega
      have HPI : Hid ((n : Int) - 1 - (k : Int) = (p : Int)) := hpi
      have HP : Hid (p = n - 1 - k) := hp
      have hpn : p < n := by omega
      have HSk : Hid (∀ (W : World) (i : Nat), RoJ w (.slice so sn sc) (.slice lo ln lc) n m RB k h W → i < m → Calls Tryd.prog 29 #[.slice (some ⟨b, off, none⟩) n cap, .agg #[.slice so sn sc, .slice lo ln lc], .slice (some ⟨RB, 0, none⟩) n n, .int .i64 (p : Int), .int .i64 (i : Int)] W fun e w' => e = .returned (.bool (h p i)) ∧ Below W.heap.size W w') := fun W i s hi => by
        have := HSa.out W k i s hlt hi
        rw [← hp] at this
        exact this
      rw [hpi]
      clear hp hpi
      generalize wr = wo at *
      go_wp2_with fail
      go_loopw [8, 9] (fun out i wr => ∃ j : Nat, j ≤ m ∧ i = .int .i64 (j : Int) ∧ Hid (wr.ownsRow wo.heap.size 4 1 out j (bvals ((List.range j).map (h p)))) ∧ Hid (Below wo.heap.size wo wr)) (fun _ i _ => m - (intOf i).toNat)
      case atStart => exact ⟨0, Nat.zero_le _, rfl, World.ownsRow_nil _ _ _ _, Below.refl _ _⟩
      case round =>
        obtain ⟨j, hj, rfl, HOwn, HBel⟩ := hrel
        have hbel := HBel.out
        have hJr := HJ.out.later hbel
        by_cases hlj : j < m
        · have hsd := HSk.out wr j hJr hlj
          have d0 := hJr.d0
          have d1 := hJr.d1
          have hown := HOwn.out
          have hnb := hown.lt
          obtain ⟨oo, oc, rfl⟩ := owns_slice hown
          have h63 : j + 1 ≤ maxLen := by unfold maxLen; omega
          have hkb : (j + 1) * 1 ≤ 140737488355328 := by omega
          have HEl : Hid (bvals ((List.range (j + 1)).map (h p)) = bvals ((List.range j).map (h p)) ++ [.bool (h p j)]) := HML.out (h p) j
          clear hJr
          go_wp2_with (first | (go_at_call 29; refine hsd.mono ?_; rintro e w4 ⟨rfl, hb4⟩; have hb34 := hbel.trans (hb4.mono hbel.size); have hown3 := fun o => (owns_later hown hb4 (Nat.le_refl _)).alloc o; have hbase : ∀ o, wo.heap.size ≤ (w4.alloc o).heap.size := (fun o => by have := hb34.size; simp; omega)) | (at_builtin; refine wpList_append_own _ rfl (.tmp 39) (.tmp 41) 27 rfl wo.heap.size 4 i0 (.bool false) 1 1 Tryd.underlying27 hi hz0 hz1 hz2 rfl (by decide) _ j _ rfl (hown3 _) ⟨w4.heap.size, 0, none⟩ 1 1 [.bool (h p j)] rfl rfl (cell_one_new _ _ _) (by intro u hu; simp at hu; subst hu; rfl) h63 hkb (hbase _) ?_; intro v' w5 hown' hgrow _))
          have hb5 : Below wo.heap.size wo w5 := (hb34.alloc hb34.size _).grown hgrow (hbase _) (fun z hz => (hnb z hz).1)
          have HO5 : Hid (w5.ownsRow wo.heap.size 4 1 v' (j + 1) (bvals ((List.range (j + 1)).map (h p)))) := by
            show World.ownsRow _ _ _ _ _ _ _
            rw [HEl.out]
            exact hown'
          clear hown' hgrow hown3
          exact ⟨⟨j + 1, hlj, by first | rfl | simp, HO5.out, hb5⟩, by simp [intOf]; omega⟩
        · obtain rfl : j = m := by omega
          have hown := HOwn.out
          obtain ⟨f, hr1, hr2⟩ := hJr.rows
          have c0 := hr1.cell hpn
          have f0 := hr1.frozen p
          have hRl : RB < wo.heap.size := by obtain ⟨_, h1, _⟩ := HJ.out.rows; exact h1.lt
          have hm1 := HM.out
          rcases id hown.2 with ⟨_, e0⟩ | ⟨g, gc, cur, rfl, hgb, hgg, _, _, _, _⟩
          · omega
          have hgl : g < wr.heap.size := (Array.getElem?_eq_some_iff.1 hgg).1
          have HN : Hid (RoJ w (.slice so sn sc) (.slice lo ln lc) n j RB (k + 1) h (wr.setCell ⟨RB, p, none⟩ (.slice (some ⟨g, 0, none⟩) j gc))) := by
            show RoJ _ _ _ _ _ _ _ _ _
            rw [HP.out]
            refine hJr.put g gc (by omega) hgl fun i hij => ?_
            have := hown.cellAt i (by omega)
            rw [this, ← HP.out]
            simp [bvals, hij]
          clear hr1 hr2 hown hgg hm1 hJr hbel
          go_wp2_with fail
          have he : (p : Int) - 1 = (n : Int) - 1 - ((k + 1 : Nat) : Int) := by have := HPI.out; omega
          exact ⟨⟨k + 1, by omega, by rw [he], HN⟩, by simp [intOf]⟩
    · have hkn : (n : Int) - 1 - (k : Int) = -1 := by omega
      have hke : k = n := by omega
      have HF : Hid (RoJ w (.slice so sn sc) (.slice lo ln lc) n m RB n h wr) := by
        have hx := HJ.out
        rw [hke] at hx
        exact hx
      rw [hkn]
      clear hkn hke
      go_wp2_with fail
      go_ret
      exact ⟨by rw [← HR.out]; rfl, by rw [← HR.out]; exact HF.out⟩
end Go.Proofs.YtalbnbcfdpfofaaDoor

/-
  The contracts of the document's own formulaAndWord, MomentsOf and HoldsOf.
-/
namespace Go.Proofs.YtalbnbcfdpfofaaDoor
open Go.ChangeShapes Go.WideShapes Go.ChangeAt Go.RowKit Go.Deep
open Terms

theorem RowT.boolsC {W : World} {rb m : Nat} {h : Nat → Bool} (r : RowT W rb m h) (c : Nat) : BoolsV W (.slice (some ⟨rb, 0, none⟩) m c) ((List.range m).map h) :=
  ⟨some ⟨rb, 0, none⟩, c, by simp, fun _ => ⟨rb, 0, rfl, r.1, fun i hi => by
    simp only [List.length_map, List.length_range] at hi
    rw [Nat.zero_add, r.2 i hi]
    simp [List.getD_eq_getElem?_getD, hi]⟩⟩

set_option maxHeartbeats 800000 in
set_option maxRecDepth 20000 in
/-- THE CONTRACT OF formulaAndWord. -/
theorem fw_any (v sv lv : Value) (l : List (Int × Int)) (ss ll : List (List Bool)) (props : Int) (w : World) (hV : OpsV w v l) (hzs : ss.length ≤ 140737488355328) (hzl : ll.length ≤ 140737488355328) (hS : LettersV w sv ss) (hL : LettersV w lv ll) :
    Calls Tryd.prog 16 #[v, .agg #[sv, lv], .int .i64 props] w fun e w' => e = .returned (.int .i64 (mocode props l ss ll)) ∧ Below w.heap.size w w' := by
  have hA : ∀ o, Below w.heap.size w (w.alloc o) := fun o => (Below.refl _ _).alloc (Nat.le_refl _) o
  have hff : ∀ w1, Below w.heap.size w w1 → Calls Tryd.prog 27 #[v, .int .i64 props] w1 fun e w' => e = .returned (.int .i64 (lcode props l)) ∧ Below w1.heap.size w1 w' := fun w1 hb => fault_any v l props w1 (hV.below hb)
  have hwf : ∀ w1, Below w.heap.size w w1 → Calls Tryd.prog 28 #[.agg #[sv, lv], .int .i64 props] w1 fun e w' => e = .returned (.int .i64 (wcode props ss ll)) ∧ Below w.heap.size w w' := fun w1 hb => (wfault_any sv lv ss ll props w1 hzs hzl (hS.below hb) (hL.below hb)).mono fun e w' ⟨h1, h2⟩ => ⟨h1, hb.trans (h2.mono hb.size)⟩
  obtain ⟨so, sc, rfl⟩ := hS.shape
  obtain ⟨lo, lc, rfl⟩ := hL.shape
  obtain ⟨vo, vc, rfl, _⟩ := id hV
  unfold mocode
  generalize lcode props l = x at *
  generalize wcode props ss ll = y at *
  generalize ss.length = sn at *
  generalize ll.length = ln at *
  generalize l.length = n at *
  clear hV hS hL hzs hzl
  by_cases hx : x = 0
  · rw [if_neg (by simpa using hx)]
    subst hx
    go_enter Tryd.func16, Tryd.ntmps16
    go_wp2_with (first | (go_at_call 27; refine (hff _ (hA _)).mono ?_; rintro e w1 ⟨rfl, hb1⟩; have hbw := (hA _).trans (hb1.mono (hA _).size); have k0 : w1.cell? ⟨w.heap.size, 0, none⟩ = some (.slice so sn sc) := (hb1.cell (p := ⟨w.heap.size, 0, none⟩) (by simp)).trans (by simp [go_sem]); have k1 : w1.cell? ⟨w.heap.size, 1, none⟩ = some (.slice lo ln lc) := (hb1.cell (p := ⟨w.heap.size, 1, none⟩) (by simp)).trans (by simp [go_sem])) | (go_at_call 28; refine (hwf _ hbw).mono ?_; rintro e w2 ⟨rfl, hb2⟩))
    go_ret
    exact ⟨rfl, hb2⟩
  · rw [if_pos hx]
    go_enter Tryd.func16, Tryd.ntmps16
    go_wp2_with (go_at_call 27; refine (hff _ (hA _)).mono ?_; rintro e w1 ⟨rfl, hb1⟩; have hbw := (hA _).trans (hb1.mono (hA _).size))
    go_ret
    exact ⟨rfl, hbw⟩

set_option maxHeartbeats 800000 in
set_option maxRecDepth 20000 in
theorem rmoments_bad (v sv lv : Value) (l : List (Int × Int)) (ss ll : List (List Bool)) (props : Int) (w : World) (hV : OpsV w v l) (hzs : ss.length ≤ 140737488355328) (hzl : ll.length ≤ 140737488355328) (hS : LettersV w sv ss) (hL : LettersV w lv ll) (hc : mocode props l ss ll ≠ 0) :
    Calls Tryd.prog 8 #[v, .agg #[sv, lv], .int .i64 props] w fun e w' => e = .returned (.tuple #[.slice none 0 0, .int .i64 (mocode props l ss ll)]) ∧ Below w.heap.size w w' := by
  have hA : ∀ o, Below w.heap.size w (w.alloc o) := fun o => (Below.refl _ _).alloc (Nat.le_refl _) o
  have hff : ∀ w1, Below w.heap.size w w1 → Calls Tryd.prog 16 #[v, .agg #[sv, lv], .int .i64 props] w1 fun e w' => e = .returned (.int .i64 (mocode props l ss ll)) ∧ Below w.heap.size w w' := fun w1 hb => (fw_any v sv lv l ss ll props w1 (hV.below hb) hzs hzl (hS.below hb) (hL.below hb)).mono fun e w' ⟨h1, h2⟩ => ⟨h1, hb.trans (h2.mono hb.size)⟩
  obtain ⟨so, sc, rfl⟩ := hS.shape
  obtain ⟨lo, lc, rfl⟩ := hL.shape
  obtain ⟨vo, vc, rfl, _⟩ := id hV
  generalize mocode props l ss ll = x at *
  generalize ss.length = sn at *
  generalize ll.length = ln at *
  generalize l.length = n at *
  clear hV hS hL hzs hzl
  go_enter Tryd.func8, Tryd.ntmps8
  go_wp2_with (go_at_call 16; refine (hff _ (by first | exact hA _ | exact Below.refl _ _)).mono ?_; rintro e w1 ⟨rfl, hb1⟩)
  go_ret2
  exact ⟨rfl, hb1⟩

set_option maxHeartbeats 800000 in
set_option maxRecDepth 20000 in
theorem rmoments_ok (v sv lv : Value) (l : List (Int × Int)) (ss ll : List (List Bool)) (props : Int) (t : Tm) (w : World) (hV : OpsV w v l) (hS : LettersV w sv ss) (hL : LettersV w lv ll) (hc : mocode props l ss ll = 0) (hwf : t.Wf) (hto : t.ops = l) :
    Calls Tryd.prog 8 #[v, .agg #[sv, lv], .int .i64 props] w fun e w' => ∃ rb rc, e = .returned (.tuple #[.slice (some ⟨rb, 0, none⟩) (ss.length + ll.length) rc, .int .i64 0]) ∧ Below w.heap.size w w' ∧ Hid (RowT w' rb (ss.length + ll.length) (t.hb (sig (ss ++ ll) ss.length))) := by
  obtain ⟨hc1, hc2⟩ := mocode_zero hc
  obtain ⟨_, _, hz, hlf, _⟩ := lcode_zero hc1
  obtain ⟨hne, h60⟩ := ends_ne hz
  obtain ⟨_, h12, h1, hl12, hbad⟩ := wcode_zero hc2
  rw [List.length_map] at h60
  have hA : ∀ o, Below w.heap.size w (w.alloc o) := fun o => (Below.refl _ _).alloc (Nat.le_refl _) o
  have hff : ∀ w1, Below w.heap.size w w1 → Calls Tryd.prog 16 #[v, .agg #[sv, lv], .int .i64 props] w1 fun e w' => e = .returned (.int .i64 0) ∧ Below w1.heap.size w1 w' := fun w1 hb => (fw_any v sv lv l ss ll props w1 (hV.below hb) (by omega) (by omega) (hS.below hb) (hL.below hb)).mono fun e w' ⟨h1, h2⟩ => ⟨by rw [h1, hc], h2⟩
  obtain ⟨so, sc, rfl⟩ := hS.shape
  obtain ⟨lo, lc, rfl⟩ := hL.shape
  obtain ⟨vo, vc, rfl, _, hvv⟩ := id hV
  obtain ⟨b, off, rfl, hbl, hat⟩ := hvv (by rintro rfl; exact hne rfl)
  have hl0 : 0 < l.length := by
    cases l with
    | nil => exact absurd rfl hne
    | cons _ _ => simp
  have hro : ∀ w1, Below w.heap.size w w1 → Calls Tryd.prog 17 #[.slice (some ⟨b, off, none⟩) l.length vc, .agg #[.slice so ss.length sc, .slice lo ll.length lc]] w1 fun e w' => ∃ RB rb rc, e = .returned (.slice (some ⟨RB, 0, none⟩) l.length l.length) ∧ Below w.heap.size w w' ∧ w'.cell? ⟨RB, 0, none⟩ = some (.slice (some ⟨rb, 0, none⟩) (ss.length + ll.length) rc) ∧ Hid (RowT w' rb (ss.length + ll.length) (t.hb (sig (ss ++ ll) ss.length))) := fun w1 hb => (rows_any b off l.length vc so lo ss.length sc ll.length lc (ss.length + ll.length) l ss ll t props w1 hwf hto rfl h60 hz (fun q hq => lfirst_all hlf q hq) hbad rfl rfl h12 h1 hl12 rfl (hS.below hb) (hL.below hb) (hat.below hb hbl) (Nat.lt_of_lt_of_le hbl hb.size)).mono fun e w' ⟨e1, s⟩ => by
    obtain ⟨f, r1, r2⟩ := s.rows
    obtain ⟨rb, rc, q1, _, q3, q4⟩ := r2 0 (by omega) hl0
    refine ⟨_, rb, rc, e1, hb.trans (s.below.mono hb.size), by rw [r1.cell hl0, q1], q3, fun j hj => ?_⟩
    rw [q4 j hj, Tm.sub_zero]
  have hln0 : (0 : Int) < (l.length : Int) := by omega
  generalize t.hb (sig (ss ++ ll) ss.length) = hh at *
  generalize ss.length = sn at *
  generalize ll.length = ln at *
  generalize l.length = n at *
  clear hV hS hL hc hc1 hc2 hz hne hvv hat hto hlf hbad
  go_enter Tryd.func8, Tryd.ntmps8
  go_wp2_with (first | (go_at_call 16; refine (hff _ (hA _)).mono ?_; rintro e w1 ⟨rfl, hb1⟩; have hbw := (hA _).trans (hb1.mono (hA _).size); have k0 : w1.cell? ⟨w.heap.size, 0, none⟩ = some (.slice so sn sc) := (hb1.cell (p := ⟨w.heap.size, 0, none⟩) (by simp)).trans (by simp [go_sem]); have k1 : w1.cell? ⟨w.heap.size, 1, none⟩ = some (.slice lo ln lc) := (hb1.cell (p := ⟨w.heap.size, 1, none⟩) (by simp)).trans (by simp [go_sem])) | (go_at_call 17; refine (hro _ hbw).mono ?_; rintro e w2 ⟨RB, rb, rc, rfl, hb2, hcr, HR⟩))
  go_ret2
  exact ⟨rb, rc, rfl, hb2, HR⟩

end Go.Proofs.YtalbnbcfdpfofaaDoor

/-
  The contract of the document's own ClaimsOf.
-/
namespace Go.Proofs.YtalbnbcfdpfofaaDoor
open Go.ChangeShapes Go.WideShapes Go.ChangeAt Go.RowKit Go.Deep
open Terms

/-- the rows that ClaimsOf reads. -/
def RefIn (W : World) (n m RB : Nat) (h : Nat → Nat → Bool) : Prop := RB < W.heap.size ∧ ∀ q, q < n → ∃ rb rc, W.cell? ⟨RB, q, none⟩ = some (.slice (some ⟨rb, 0, none⟩) m rc) ∧ rb < W.heap.size ∧ ∀ j, j < m → W.cell? ⟨rb, j, none⟩ = some (.bool (h q j))
theorem RefIn.later {W W' : World} {n m RB : Nat} {h : Nat → Nat → Bool} (c : RefIn W n m RB h) (hb : Below W.heap.size W W') : RefIn W' n m RB h := by
  refine ⟨Nat.lt_of_lt_of_le c.1 hb.size, fun q hq => ?_⟩
  obtain ⟨rb, rc, e1, e2, e3⟩ := c.2 q hq
  exact ⟨rb, rc, (hb.cell (p := ⟨RB, q, none⟩) c.1).trans e1, Nat.lt_of_lt_of_le e2 hb.size, fun j hj => (hb.cell (p := ⟨rb, j, none⟩) e2).trans (e3 j hj)⟩
/-- the claim's bits of the places ahead of q, and their number. -/
def clmQ (l : List (Int × Int)) (h : Nat → Nat → Bool) (i q : Nat) : Int := clmTo (aheadTo l q) h i (aheadTo l q).length
theorem clmQ_zero (l : List (Int × Int)) (h : Nat → Nat → Bool) (i : Nat) : clmQ l h i 0 = 0 := rfl
theorem clmQ_no {l : List (Int × Int)} {h : Nat → Nat → Bool} {i q : Nat} (e : lookB (l.getD q (0, 0)).1 = false) : clmQ l h i (q + 1) = clmQ l h i q := by unfold clmQ; rw [aheadTo_no e]
theorem clmQ_yes {l : List (Int × Int)} {h : Nat → Nat → Bool} {i q : Nat} (e : lookB (l.getD q (0, 0)).1 = true) : clmQ l h i (q + 1) = clmQ l h i q + if h q i = true then 2 ^ (aheadTo l q).length else 0 := by
  unfold clmQ
  rw [aheadTo_yes e, List.length_append, List.length_singleton]
  simp only [clmTo]
  rw [clmTo_append _ _ _ _ _ (Nat.le_refl _)]
  simp [List.getD_eq_getElem?_getD]
set_option maxHeartbeats 1600000 in
set_option maxRecDepth 20000 in
/-- THE CONTRACT OF ClaimsOf, by what its rows are. -/
theorem rclaims_of (b off n cap : Nat) (so lo : Option Addr) (sn sc ln lc m : Nat) (props : Int) (l : List (Int × Int)) (h : Nat → Nat → Bool) (w : World) (hm : m ≤ 24) (hn0 : 0 < n) (hn : n ≤ 60) (hln : n = l.length) (h6 : (aheadL l).length ≤ 6) (hbl : b < w.heap.size) (hat : OpsAt w b off l)
    (hff : ∀ w0, Below w.heap.size w w0 → Calls Tryd.prog 16 #[.slice (some ⟨b, off, none⟩) n cap, .agg #[.slice so sn sc, .slice lo ln lc], .int .i64 props] w0 fun e w' => e = .returned (.int .i64 0) ∧ Below w0.heap.size w0 w')
    (hro : ∀ w0, Below w.heap.size w w0 → Calls Tryd.prog 17 #[.slice (some ⟨b, off, none⟩) n cap, .agg #[.slice so sn sc, .slice lo ln lc]] w0 fun e w' => ∃ RB, e = .returned (.slice (some ⟨RB, 0, none⟩) n n) ∧ Below w.heap.size w w' ∧ Hid (RefIn w' n m RB h)) :
    Calls Tryd.prog 12 #[.slice (some ⟨b, off, none⟩) n cap, .agg #[.slice so sn sc, .slice lo ln lc], .int .i64 props] w fun e w' => ∃ cv, e = .returned (.tuple #[cv, .int .i64 0]) ∧ Below w.heap.size w w' ∧ Hid (w'.ownsRow w.heap.size 3 1 cv m (ivals (clmL (aheadL l) h m))) := by
  have hA : ∀ o, Below w.heap.size w (w.alloc o) := fun o => (Below.refl _ _).alloc (Nat.le_refl _) o
  have HQ0 : Hid (∀ i, clmQ l h i 0 = 0) := fun _ => rfl
  have HOps : Hid (OpsAt w b off l) := hat
  have HLn : Hid (n = l.length) := hln
  have H6 : Hid ((aheadL l).length ≤ 6) := h6
  clear hln h6 hat
  obtain ⟨i0, hi, hz0, hz1, hz2⟩ := info_parts infoInt
  go_enter Tryd.func12, Tryd.ntmps12
  go_wp2_with (first | (go_at_call 16; refine (hff _ (hA _)).mono ?_; rintro e w1 ⟨rfl, hb1⟩; have hbw := (hA _).trans (hb1.mono (hA _).size); have k0 : w1.cell? ⟨w.heap.size, 0, none⟩ = some (.slice so sn sc) := (hb1.cell (p := ⟨w.heap.size, 0, none⟩) (by simp)).trans (by simp [go_sem]); have k1 : w1.cell? ⟨w.heap.size, 1, none⟩ = some (.slice lo ln lc) := (hb1.cell (p := ⟨w.heap.size, 1, none⟩) (by simp)).trans (by simp [go_sem])) | (go_at_call 17; refine (hro _ hbw).mono ?_; rintro e w2 ⟨RB, rfl, hb2, HR⟩))
  clear hff hro hb1 hbw k0 k1
  have HBl : Hid (b < w.heap.size) := hbl
  have hs2 := hb2.size
  have HQY : Hid (∀ (i q : Nat), lookB (l.getD q (0, 0)).1 = true → clmQ l h i (q + 1) = clmQ l h i q + if h q i = true then 2 ^ (aheadTo l q).length else 0) := fun i q e => clmQ_yes e
  have HQN : Hid (∀ (i q : Nat), lookB (l.getD q (0, 0)).1 = false → clmQ l h i (q + 1) = clmQ l h i q) := fun i q e => clmQ_no e
  have HQB : Hid (∀ (i q : Nat), 0 ≤ clmQ l h i q ∧ clmQ l h i q < 2 ^ (aheadTo l q).length) := fun i q => clmTo_bounds _ _ _ _
  have HAY : Hid (∀ (q : Nat), lookB (l.getD q (0, 0)).1 = true → (aheadTo l (q + 1)).length = (aheadTo l q).length + 1) := fun q e => by rw [aheadTo_yes e]; simp
  have HAN : Hid (∀ (q : Nat), lookB (l.getD q (0, 0)).1 = false → (aheadTo l (q + 1)).length = (aheadTo l q).length) := fun q e => by rw [aheadTo_no e]
  have HA6 : Hid (∀ (q : Nat), q ≤ n → (aheadTo l q).length ≤ 6) := fun q hq => Nat.le_trans (aheadTo_mono l (by rw [← HLn.out]; exact hq)) H6.out
  have HML : Hid (∀ (k : Nat), ivals ((List.range (k + 1)).map fun j => clmQ l h j n) = ivals ((List.range k).map fun j => clmQ l h j n) ++ [.int .i64 (clmQ l h k n)]) := fun k => by
    rw [List.range_succ, List.map_append]
    unfold ivals
    rw [List.map_append]
    rfl
  have HFin : Hid (clmL (aheadL l) h m = (List.range m).map fun j => clmQ l h j n) := by
    show _ = _
    unfold clmL clmQ aheadL
    rw [HLn.out]
  have HA0 : Hid ((aheadTo l 0).length = 0) := rfl
  clear H6
  generalize hql : clmQ l h = ql at *
  generalize hal : (fun q => (aheadTo l q).length) = al at *
  have HAl : Hid (∀ q, (aheadTo l q).length = al q) := fun q => by rw [← hal]
  simp only [HAl.out] at HQY HQB HAY HAN HA6 HA0
  clear hql hal HAl hbl
  go_loopw [10, 11] (fun out i wr => ∃ k : Nat, k ≤ m ∧ i = .int .i64 (k : Int) ∧ Hid (wr.ownsRow w2.heap.size 3 1 out k (ivals ((List.range k).map fun j => ql j n))) ∧ Hid (Below w2.heap.size w2 wr)) (fun _ i _ => m - (intOf i).toNat)
  case atStart => exact ⟨0, Nat.zero_le _, rfl, World.ownsRow_nil _ _ _ _, Below.refl _ _⟩
  case round =>
    obtain ⟨k, hk, rfl, HOwn, HBel⟩ := hrel
    have hbel := HBel.out
    have hRr := HR.out.later hbel
    obtain ⟨r0, rc0, hc0, _, _⟩ := hRr.2 0 hn0
    have hown := HOwn.out
    obtain ⟨oo, oc, rfl⟩ := owns_slice hown
    by_cases hlt : k < m
    · generalize wr = wo at *
      clear hRr
      go_wp2_with fail
      go_loopw [12, 13, 14] (fun nv pv i wr => ∃ q : Nat, q ≤ n ∧ i = .int .i64 (q : Int) ∧ nv = .int .i64 (ql k q) ∧ pv = .int .i64 (2 ^ al q) ∧ Hid (Below wo.heap.size wo wr) ∧ Hid (wr.ownsRow w2.heap.size 3 1 (.slice oo k oc) k (ivals ((List.range k).map fun j => ql j n)))) (fun _ _ i _ => n - (intOf i).toNat)
      case atStart => exact ⟨0, Nat.zero_le _, rfl, by rw [HQ0.out], by rw [HA0.out]; rfl, Below.refl _ _, hown⟩
      case round =>
        obtain ⟨q, hq, rfl, rfl, rfl, HBq, HOq⟩ := hrel
        have hbq := HBq.out
        by_cases hlq : q < n
        · have hb2q := hbel.trans (hbq.mono hbel.size)
          have hbwq := hb2.trans (hb2q.mono hb2.size)
          obtain ⟨c0, c1⟩ := (HOps.out.below hbwq HBl.out) q (by rw [← HLn.out]; exact hlq)
          obtain ⟨rb, rc, g0, _, g1⟩ := (HR.out.later hb2q).2 q hlq
          have g2 := g1 k hlt
          obtain ⟨hq0, hq1⟩ := HQB.out k q
          have ha6 := HA6.out q hq
          have hps := pow_small (k := al q) ha6
          have h2k : (0 : Int) < 2 ^ al q := Int.pow_pos (by decide)
          have HY : Hid (lookB (l.getD q (0, 0)).1 = true → ql k (q + 1) = ql k q + if h q k = true then 2 ^ al q else 0) := HQY.out k q
          have HN : Hid (lookB (l.getD q (0, 0)).1 = false → ql k (q + 1) = ql k q) := HQN.out k q
          have HY2 : Hid (lookB (l.getD q (0, 0)).1 = true → al (q + 1) = al q + 1) := HAY.out q
          have HN2 : Hid (lookB (l.getD q (0, 0)).1 = false → al (q + 1) = al q) := HAN.out q
          generalize l.getD q (0, 0) = xy at c0 c1 HY HN HY2 HN2
          obtain ⟨x, y⟩ := xy
          simp only at c0 c1 HY HN HY2 HN2
          have hlk := fun w => rlook_any x w
          clear g1 HQY HQN HQB HAY HAN HA6 HOps HR
          cases hb : lookB x with
          | true =>
            have E1 := (show Hid _ from HY.out hb)
            have E2 := (show Hid _ from HY2.out hb)
            rw [hb] at hlk
            clear HY HN HY2 HN2 hb
            have E3 : Hid ((2 : Int) ^ al (q + 1) = 2 ^ al q * 2) := by show _ = _; rw [E2.out, Int.pow_succ]
            clear E2
            generalize (2 : Int) ^ al q = pw at *
            generalize ql k q = c at *
            generalize hhv : h q k = hv at *
            cases hv with
            | true =>
              have E4 : Hid (ql k (q + 1) = c + pw) := by show _ = _; rw [E1.out]; simp
              clear E1 hhv
              go_wp2_with (go_at_call 18; refine (hlk _).mono ?_; rintro e w3 ⟨rfl, rfl⟩)
              exact ⟨⟨q + 1, hlq, by first | rfl | simp, by rw [E4.out], by rw [E3.out], hbq, HOq.out⟩, by simp [intOf]; omega⟩
            | false =>
              have E4 : Hid (ql k (q + 1) = c) := by show _ = _; rw [E1.out]; simp
              clear E1 hhv
              go_wp2_with (go_at_call 18; refine (hlk _).mono ?_; rintro e w3 ⟨rfl, rfl⟩)
              exact ⟨⟨q + 1, hlq, by first | rfl | simp, by rw [E4.out], by rw [E3.out], hbq, HOq.out⟩, by simp [intOf]; omega⟩
          | false =>
            have E1 := (show Hid _ from HN.out hb)
            have E2 := (show Hid _ from HN2.out hb)
            rw [hb] at hlk
            clear HY HN HY2 HN2 hb
            go_wp2_with (go_at_call 18; refine (hlk _).mono ?_; rintro e w3 ⟨rfl, rfl⟩)
            exact ⟨⟨q + 1, hlq, by first | rfl | simp, by rw [E1.out], by rw [E2.out], hbq, HOq.out⟩, by simp [intOf]; omega⟩
        · obtain rfl : q = n := by omega
          have hownq := HOq.out
          have hnb := hownq.lt
          have h63 : k + 1 ≤ maxLen := by unfold maxLen; omega
          have hkb : (k + 1) * 8 ≤ 140737488355328 := by omega
          have hb2q := hbel.trans (hbq.mono hbel.size)
          have hbase : ∀ o, w2.heap.size ≤ (wr.alloc o).heap.size := fun o => by have := hb2q.size; simp; omega
          have HEl := (show Hid _ from HML.out k)
          go_wp2_with (at_builtin; refine wpList_append_own _ rfl _ _ 35 rfl w2.heap.size 3 i0 (.int .i64 0) 1 8 Tryd.underlying35 hi hz0 hz1 hz2 rfl (by decide) _ k _ rfl (hownq.alloc _) ⟨_, 0, none⟩ 1 1 _ rfl rfl (cell_one_new _ _ _) (by intro u hu; simp at hu; subst hu; rfl) h63 hkb (hbase _) ?_; intro v5 w5 hown5 hgrow5 _)
          have hb5 : Below w2.heap.size w2 w5 := (hb2q.alloc hb2q.size _).grown hgrow5 (hbase _) (fun z hz => (hnb z hz).1)
          have HO5 : Hid (w5.ownsRow w2.heap.size 3 1 v5 (k + 1) (ivals ((List.range (k + 1)).map fun j => ql j q))) := by
            show World.ownsRow _ _ _ _ _ _ _
            rw [HEl.out]
            exact hown5
          clear hown5 hgrow5
          exact ⟨⟨k + 1, hlt, by first | rfl | simp, HO5.out, hb5⟩, by simp [intOf]; omega⟩
    · obtain rfl : k = m := by omega
      clear hRr
      go_wp2_with fail
      go_ret2
      refine ⟨_, rfl, hb2.trans (hbel.mono hb2.size), ?_⟩
      show World.ownsRow _ _ _ _ _ _ _
      rw [HFin.out]
      exact owns_mono HOwn.out hs2
end Go.Proofs.YtalbnbcfdpfofaaDoor

/-
  The contracts of the document's own ClaimsOf, of what is right and what is none.
-/
namespace Go.Proofs.YtalbnbcfdpfofaaDoor
open Go.ChangeShapes Go.WideShapes Go.ChangeAt Go.RowKit Go.Deep
open Terms

set_option maxHeartbeats 800000 in
set_option maxRecDepth 20000 in
theorem rclaims_bad (v sv lv : Value) (l : List (Int × Int)) (ss ll : List (List Bool)) (props : Int) (w : World) (hV : OpsV w v l) (hzs : ss.length ≤ 140737488355328) (hzl : ll.length ≤ 140737488355328) (hS : LettersV w sv ss) (hL : LettersV w lv ll) (hc : mocode props l ss ll ≠ 0) :
    Calls Tryd.prog 12 #[v, .agg #[sv, lv], .int .i64 props] w fun e w' => e = .returned (.tuple #[.slice none 0 0, .int .i64 (mocode props l ss ll)]) ∧ Below w.heap.size w w' := by
  have hA : ∀ o, Below w.heap.size w (w.alloc o) := fun o => (Below.refl _ _).alloc (Nat.le_refl _) o
  have hff : ∀ w1, Below w.heap.size w w1 → Calls Tryd.prog 16 #[v, .agg #[sv, lv], .int .i64 props] w1 fun e w' => e = .returned (.int .i64 (mocode props l ss ll)) ∧ Below w.heap.size w w' := fun w1 hb => (fw_any v sv lv l ss ll props w1 (hV.below hb) hzs hzl (hS.below hb) (hL.below hb)).mono fun e w' ⟨h1, h2⟩ => ⟨h1, hb.trans (h2.mono hb.size)⟩
  obtain ⟨so, sc, rfl⟩ := hS.shape
  obtain ⟨lo, lc, rfl⟩ := hL.shape
  obtain ⟨vo, vc, rfl, _⟩ := id hV
  generalize mocode props l ss ll = x at *
  generalize ss.length = sn at *
  generalize ll.length = ln at *
  generalize l.length = n at *
  clear hV hS hL hzs hzl
  go_enter Tryd.func12, Tryd.ntmps12
  go_wp2_with (go_at_call 16; refine (hff _ (by first | exact hA _ | exact Below.refl _ _)).mono ?_; rintro e w1 ⟨rfl, hb1⟩)
  go_ret2
  exact ⟨rfl, hb1⟩

set_option maxRecDepth 20000 in
/-- THE CONTRACT OF ClaimsOf. -/
theorem rclaims_ok (v sv lv : Value) (l : List (Int × Int)) (ss ll : List (List Bool)) (props : Int) (t : Tm) (w : World) (hV : OpsV w v l) (hS : LettersV w sv ss) (hL : LettersV w lv ll) (hc : mocode props l ss ll = 0) (hwf : t.Wf) (hto : t.ops = l) :
    Calls Tryd.prog 12 #[v, .agg #[sv, lv], .int .i64 props] w fun e w' => ∃ cv, e = .returned (.tuple #[cv, .int .i64 0]) ∧ Below w.heap.size w w' ∧ Hid (w'.ownsRow w.heap.size 3 1 cv (ss.length + ll.length) (ivals (clmL (aheadL l) (fun q => (t.sub q).hb (sig (ss ++ ll) ss.length)) (ss.length + ll.length)))) := by
  obtain ⟨hc1, hc2⟩ := mocode_zero hc
  obtain ⟨_, _, hz, hlf, h6⟩ := lcode_zero hc1
  obtain ⟨hne, h60⟩ := ends_ne hz
  obtain ⟨_, h12, h1, hl12, hbad⟩ := wcode_zero hc2
  rw [List.length_map] at h60
  have hff : ∀ w1, Below w.heap.size w w1 → Calls Tryd.prog 16 #[v, .agg #[sv, lv], .int .i64 props] w1 fun e w' => e = .returned (.int .i64 0) ∧ Below w1.heap.size w1 w' := fun w1 hb => (fw_any v sv lv l ss ll props w1 (hV.below hb) (by omega) (by omega) (hS.below hb) (hL.below hb)).mono fun e w' ⟨h1, h2⟩ => ⟨by rw [h1, hc], h2⟩
  obtain ⟨so, sc, rfl⟩ := hS.shape
  obtain ⟨lo, lc, rfl⟩ := hL.shape
  obtain ⟨vo, vc, rfl, _, hvv⟩ := id hV
  obtain ⟨b, off, rfl, hbl, hat⟩ := hvv (by rintro rfl; exact hne rfl)
  have hl0 : 0 < l.length := by
    cases l with
    | nil => exact absurd rfl hne
    | cons _ _ => simp
  refine rclaims_of b off l.length vc so lo ss.length sc ll.length lc (ss.length + ll.length) props l _ w (by omega) hl0 h60 rfl h6 hbl hat hff fun w1 hb => (rows_any b off l.length vc so lo ss.length sc ll.length lc (ss.length + ll.length) l ss ll t props w1 hwf hto rfl h60 hz (fun q hq => lfirst_all hlf q hq) hbad rfl rfl h12 h1 hl12 rfl (hS.below hb) (hL.below hb) (hat.below hb hbl) (Nat.lt_of_lt_of_le hbl hb.size)).mono fun e w' ⟨e1, s⟩ => ?_
  obtain ⟨f, r1, r2⟩ := s.rows
  refine ⟨_, e1, hb.trans (s.below.mono hb.size), r1.lt, fun q hq => ?_⟩
  obtain ⟨rb, rc, q1, _, q3, q4⟩ := r2 q (by omega) hq
  exact ⟨rb, rc, by rw [r1.cell hq, q1], q3, q4⟩
end Go.Proofs.YtalbnbcfdpfofaaDoor
