/-
  The contract of the document's own ClaimsOf.
-/
import Derived.Test.YtalbnbcfdpfofaaDoorWClm
import Derived.Test.YtalbnbcfdpfofaaDoorRefAhead
namespace Go.Proofs.YtalbnbcfdpfofaaDoor
open Go.ChangeShapes Go.WideShapes Go.ChangeAt Go.RowKit Go.Deep
open Terms

/-- the rows that ClaimsOf reads. -/
def RefIn (W : World) (n m RB : Nat) (h : Nat → Nat → Bool) : Prop := RB < W.heap.size ∧ ∀ q, q < n → ∃ rb rc, W.cell? ⟨RB, q, none⟩ = some (.slice (some ⟨rb, 0, none⟩) m rc) ∧ rb < W.heap.size ∧ ∀ j, j < m → W.cell? ⟨rb, j, none⟩ = some (.bool (h q j))
theorem RefIn.later {W W' : World} {n m RB : Nat} {h : Nat → Nat → Bool} (c : RefIn W n m RB h) (hb : Below W.heap.size W W') : RefIn W' n m RB h := by
  refine ⟨Nat.lt_of_lt_of_le c.1 hb.size, fun q hq => ?_⟩
  obtain ⟨rb, rc, e1, e2, e3⟩ := c.2 q hq
  exact ⟨rb, rc, (hb.cell (p := ⟨RB, q, none⟩) c.1).trans e1, Nat.lt_of_lt_of_le e2 hb.size, fun j hj => (hb.cell (p := ⟨rb, j, none⟩) e2).trans (e3 j hj)⟩
/-- the claim's bits of the places ahead of q, and their number. -/
def clmQ (l : List (Int × Int)) (h : Nat → Nat → Bool) (i q : Nat) : Int := clmTo (aheadTo l q) h i (aheadTo l q).length
theorem clmQ_zero (l : List (Int × Int)) (h : Nat → Nat → Bool) (i : Nat) : clmQ l h i 0 = 0 := rfl
theorem clmQ_no {l : List (Int × Int)} {h : Nat → Nat → Bool} {i q : Nat} (e : lookB (l.getD q (0, 0)).1 = false) : clmQ l h i (q + 1) = clmQ l h i q := by unfold clmQ; rw [aheadTo_no e]
theorem clmQ_yes {l : List (Int × Int)} {h : Nat → Nat → Bool} {i q : Nat} (e : lookB (l.getD q (0, 0)).1 = true) : clmQ l h i (q + 1) = clmQ l h i q + if h q i = true then 2 ^ (aheadTo l q).length else 0 := by
  unfold clmQ
  rw [aheadTo_yes e, List.length_append, List.length_singleton]
  simp only [clmTo]
  rw [clmTo_append _ _ _ _ _ (Nat.le_refl _)]
  simp [List.getD_eq_getElem?_getD]
set_option maxHeartbeats 1600000 in
set_option maxRecDepth 20000 in
/-- THE CONTRACT OF ClaimsOf, by what its rows are. -/
theorem rclaims_of (b off n cap : Nat) (so lo : Option Addr) (sn sc ln lc m : Nat) (props : Int) (l : List (Int × Int)) (h : Nat → Nat → Bool) (w : World) (hm : m ≤ 24) (hn0 : 0 < n) (hn : n ≤ 60) (hln : n = l.length) (h6 : (aheadL l).length ≤ 6) (hbl : b < w.heap.size) (hat : OpsAt w b off l)
    (hff : ∀ w0, Below w.heap.size w w0 → Calls Tryd.prog 16 #[.slice (some ⟨b, off, none⟩) n cap, .agg #[.slice so sn sc, .slice lo ln lc], .int .i64 props] w0 fun e w' => e = .returned (.int .i64 0) ∧ Below w0.heap.size w0 w')
    (hro : ∀ w0, Below w.heap.size w w0 → Calls Tryd.prog 17 #[.slice (some ⟨b, off, none⟩) n cap, .agg #[.slice so sn sc, .slice lo ln lc]] w0 fun e w' => ∃ RB, e = .returned (.slice (some ⟨RB, 0, none⟩) n n) ∧ Below w.heap.size w w' ∧ Hid (RefIn w' n m RB h)) :
    Calls Tryd.prog 12 #[.slice (some ⟨b, off, none⟩) n cap, .agg #[.slice so sn sc, .slice lo ln lc], .int .i64 props] w fun e w' => ∃ cv, e = .returned (.tuple #[cv, .int .i64 0]) ∧ Below w.heap.size w w' ∧ Hid (w'.ownsRow w.heap.size 3 1 cv m (ivals (clmL (aheadL l) h m))) := by
  have hA : ∀ o, Below w.heap.size w (w.alloc o) := fun o => (Below.refl _ _).alloc (Nat.le_refl _) o
  have HQ0 : Hid (∀ i, clmQ l h i 0 = 0) := fun _ => rfl
  have HOps : Hid (OpsAt w b off l) := hat
  have HLn : Hid (n = l.length) := hln
  have H6 : Hid ((aheadL l).length ≤ 6) := h6
  clear hln h6 hat
  obtain ⟨i0, hi, hz0, hz1, hz2⟩ := info_parts infoInt
  go_enter Tryd.func12, Tryd.ntmps12
  go_wp2_with (first | (go_at_call 16; refine (hff _ (hA _)).mono ?_; rintro e w1 ⟨rfl, hb1⟩; have hbw := (hA _).trans (hb1.mono (hA _).size); have k0 : w1.cell? ⟨w.heap.size, 0, none⟩ = some (.slice so sn sc) := (hb1.cell (p := ⟨w.heap.size, 0, none⟩) (by simp)).trans (by simp [go_sem]); have k1 : w1.cell? ⟨w.heap.size, 1, none⟩ = some (.slice lo ln lc) := (hb1.cell (p := ⟨w.heap.size, 1, none⟩) (by simp)).trans (by simp [go_sem])) | (go_at_call 17; refine (hro _ hbw).mono ?_; rintro e w2 ⟨RB, rfl, hb2, HR⟩))
  clear hff hro hb1 hbw k0 k1
  have HBl : Hid (b < w.heap.size) := hbl
  have hs2 := hb2.size
  have HQY : Hid (∀ (i q : Nat), lookB (l.getD q (0, 0)).1 = true → clmQ l h i (q + 1) = clmQ l h i q + if h q i = true then 2 ^ (aheadTo l q).length else 0) := fun i q e => clmQ_yes e
  have HQN : Hid (∀ (i q : Nat), lookB (l.getD q (0, 0)).1 = false → clmQ l h i (q + 1) = clmQ l h i q) := fun i q e => clmQ_no e
  have HQB : Hid (∀ (i q : Nat), 0 ≤ clmQ l h i q ∧ clmQ l h i q < 2 ^ (aheadTo l q).length) := fun i q => clmTo_bounds _ _ _ _
  have HAY : Hid (∀ (q : Nat), lookB (l.getD q (0, 0)).1 = true → (aheadTo l (q + 1)).length = (aheadTo l q).length + 1) := fun q e => by rw [aheadTo_yes e]; simp
  have HAN : Hid (∀ (q : Nat), lookB (l.getD q (0, 0)).1 = false → (aheadTo l (q + 1)).length = (aheadTo l q).length) := fun q e => by rw [aheadTo_no e]
  have HA6 : Hid (∀ (q : Nat), q ≤ n → (aheadTo l q).length ≤ 6) := fun q hq => Nat.le_trans (aheadTo_mono l (by rw [← HLn.out]; exact hq)) H6.out
  have HML : Hid (∀ (k : Nat), ivals ((List.range (k + 1)).map fun j => clmQ l h j n) = ivals ((List.range k).map fun j => clmQ l h j n) ++ [.int .i64 (clmQ l h k n)]) := fun k => by
    rw [List.range_succ, List.map_append]
    unfold ivals
    rw [List.map_append]
    rfl
  have HFin : Hid (clmL (aheadL l) h m = (List.range m).map fun j => clmQ l h j n) := by
    show _ = _
    unfold clmL clmQ aheadL
    rw [HLn.out]
  have HA0 : Hid ((aheadTo l 0).length = 0) := rfl
  clear H6
  generalize hql : clmQ l h = ql at *
  generalize hal : (fun q => (aheadTo l q).length) = al at *
  have HAl : Hid (∀ q, (aheadTo l q).length = al q) := fun q => by rw [← hal]
  simp only [HAl.out] at HQY HQB HAY HAN HA6 HA0
  clear hql hal HAl hbl
  go_loopw [10, 11] (fun out i wr => ∃ k : Nat, k ≤ m ∧ i = .int .i64 (k : Int) ∧ Hid (wr.ownsRow w2.heap.size 3 1 out k (ivals ((List.range k).map fun j => ql j n))) ∧ Hid (Below w2.heap.size w2 wr)) (fun _ i _ => m - (intOf i).toNat)
  case atStart => exact ⟨0, Nat.zero_le _, rfl, World.ownsRow_nil _ _ _ _, Below.refl _ _⟩
  case round =>
    obtain ⟨k, hk, rfl, HOwn, HBel⟩ := hrel
    have hbel := HBel.out
    have hRr := HR.out.later hbel
    obtain ⟨r0, rc0, hc0, _, _⟩ := hRr.2 0 hn0
    have hown := HOwn.out
    obtain ⟨oo, oc, rfl⟩ := owns_slice hown
    by_cases hlt : k < m
    · generalize wr = wo at *
      clear hRr
      go_wp2_with fail
      go_loopw [12, 13, 14] (fun nv pv i wr => ∃ q : Nat, q ≤ n ∧ i = .int .i64 (q : Int) ∧ nv = .int .i64 (ql k q) ∧ pv = .int .i64 (2 ^ al q) ∧ Hid (Below wo.heap.size wo wr) ∧ Hid (wr.ownsRow w2.heap.size 3 1 (.slice oo k oc) k (ivals ((List.range k).map fun j => ql j n)))) (fun _ _ i _ => n - (intOf i).toNat)
      case atStart => exact ⟨0, Nat.zero_le _, rfl, by rw [HQ0.out], by rw [HA0.out]; rfl, Below.refl _ _, hown⟩
      case round =>
        obtain ⟨q, hq, rfl, rfl, rfl, HBq, HOq⟩ := hrel
        have hbq := HBq.out
        by_cases hlq : q < n
        · have hb2q := hbel.trans (hbq.mono hbel.size)
          have hbwq := hb2.trans (hb2q.mono hb2.size)
          obtain ⟨c0, c1⟩ := (HOps.out.below hbwq HBl.out) q (by rw [← HLn.out]; exact hlq)
          obtain ⟨rb, rc, g0, _, g1⟩ := (HR.out.later hb2q).2 q hlq
          have g2 := g1 k hlt
          obtain ⟨hq0, hq1⟩ := HQB.out k q
          have ha6 := HA6.out q hq
          have hps := pow_small (k := al q) ha6
          have h2k : (0 : Int) < 2 ^ al q := Int.pow_pos (by decide)
          have HY : Hid (lookB (l.getD q (0, 0)).1 = true → ql k (q + 1) = ql k q + if h q k = true then 2 ^ al q else 0) := HQY.out k q
          have HN : Hid (lookB (l.getD q (0, 0)).1 = false → ql k (q + 1) = ql k q) := HQN.out k q
          have HY2 : Hid (lookB (l.getD q (0, 0)).1 = true → al (q + 1) = al q + 1) := HAY.out q
          have HN2 : Hid (lookB (l.getD q (0, 0)).1 = false → al (q + 1) = al q) := HAN.out q
          generalize l.getD q (0, 0) = xy at c0 c1 HY HN HY2 HN2
          obtain ⟨x, y⟩ := xy
          simp only at c0 c1 HY HN HY2 HN2
          have hlk := fun w => rlook_any x w
          clear g1 HQY HQN HQB HAY HAN HA6 HOps HR
          cases hb : lookB x with
          | true =>
            have E1 := (show Hid _ from HY.out hb)
            have E2 := (show Hid _ from HY2.out hb)
            rw [hb] at hlk
            clear HY HN HY2 HN2 hb
            have E3 : Hid ((2 : Int) ^ al (q + 1) = 2 ^ al q * 2) := by show _ = _; rw [E2.out, Int.pow_succ]
            clear E2
            generalize (2 : Int) ^ al q = pw at *
            generalize ql k q = c at *
            generalize hhv : h q k = hv at *
            cases hv with
            | true =>
              have E4 : Hid (ql k (q + 1) = c + pw) := by show _ = _; rw [E1.out]; simp
              clear E1 hhv
              go_wp2_with (go_at_call 18; refine (hlk _).mono ?_; rintro e w3 ⟨rfl, rfl⟩)
              exact ⟨⟨q + 1, hlq, by first | rfl | simp, by rw [E4.out], by rw [E3.out], hbq, HOq.out⟩, by simp [intOf]; omega⟩
            | false =>
              have E4 : Hid (ql k (q + 1) = c) := by show _ = _; rw [E1.out]; simp
              clear E1 hhv
              go_wp2_with (go_at_call 18; refine (hlk _).mono ?_; rintro e w3 ⟨rfl, rfl⟩)
              exact ⟨⟨q + 1, hlq, by first | rfl | simp, by rw [E4.out], by rw [E3.out], hbq, HOq.out⟩, by simp [intOf]; omega⟩
          | false =>
            have E1 := (show Hid _ from HN.out hb)
            have E2 := (show Hid _ from HN2.out hb)
            rw [hb] at hlk
            clear HY HN HY2 HN2 hb
            go_wp2_with (go_at_call 18; refine (hlk _).mono ?_; rintro e w3 ⟨rfl, rfl⟩)
            exact ⟨⟨q + 1, hlq, by first | rfl | simp, by rw [E1.out], by rw [E2.out], hbq, HOq.out⟩, by simp [intOf]; omega⟩
        · obtain rfl : q = n := by omega
          have hownq := HOq.out
          have hnb := hownq.lt
          have h63 : k + 1 ≤ maxLen := by unfold maxLen; omega
          have hkb : (k + 1) * 8 ≤ 140737488355328 := by omega
          have hb2q := hbel.trans (hbq.mono hbel.size)
          have hbase : ∀ o, w2.heap.size ≤ (wr.alloc o).heap.size := fun o => by have := hb2q.size; simp; omega
          have HEl := (show Hid _ from HML.out k)
          go_wp2_with (at_builtin; refine wpList_append_own _ rfl _ _ 35 rfl w2.heap.size 3 i0 (.int .i64 0) 1 8 Tryd.underlying35 hi hz0 hz1 hz2 rfl (by decide) _ k _ rfl (hownq.alloc _) ⟨_, 0, none⟩ 1 1 _ rfl rfl (cell_one_new _ _ _) (by intro u hu; simp at hu; subst hu; rfl) h63 hkb (hbase _) ?_; intro v5 w5 hown5 hgrow5 _)
          have hb5 : Below w2.heap.size w2 w5 := (hb2q.alloc hb2q.size _).grown hgrow5 (hbase _) (fun z hz => (hnb z hz).1)
          have HO5 : Hid (w5.ownsRow w2.heap.size 3 1 v5 (k + 1) (ivals ((List.range (k + 1)).map fun j => ql j q))) := by
            show World.ownsRow _ _ _ _ _ _ _
            rw [HEl.out]
            exact hown5
          clear hown5 hgrow5
          exact ⟨⟨k + 1, hlt, by first | rfl | simp, HO5.out, hb5⟩, by simp [intOf]; omega⟩
    · obtain rfl : k = m := by omega
      clear hRr
      go_wp2_with fail
      go_ret2
      refine ⟨_, rfl, hb2.trans (hbel.mono hb2.size), ?_⟩
      show World.ownsRow _ _ _ _ _ _ _
      rw [HFin.out]
      exact owns_mono HOwn.out hs2
end Go.Proofs.YtalbnbcfdpfofaaDoor
