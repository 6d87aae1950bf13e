/-
  The contract of the keeping laws' own reaches.
-/
import Derived.Test.YtalpodgndfnjcaaRefReach
import Derived.Deep.QuietTactic
import Derived.BigQuiet
namespace Go.Proofs.Ytalpodgndfnjcaa
open Go.ChangeShapes Go.WideShapes Go.ChangeAt Go.RowKit Go.Deep
open Terms

/-- what was met so far from a place. -/
structure TM (n : Nat) (nx : Nat → List Nat) (fr : Nat) (R : List Nat) : Prop where
  nodup : R.Nodup
  fst : fr ∈ R
  lt : ∀ x ∈ R, x < n
  way : ∀ x ∈ R, Way nx fr x
theorem TM.length {n : Nat} {nx : Nat → List Nat} {fr : Nat} {R : List Nat} (h : TM n nx fr R) : R.length ≤ n := nodup_le h.nodup h.lt
theorem nat_mem {l : List Nat} {i : Nat} (hi : i < l.length) : l.getD i 0 ∈ l := by rw [List.getD_eq_getElem?_getD, List.getElem?_eq_getElem hi]; exact List.getElem_mem _
theorem TM.snoc {n : Nat} {nx : Nat → List Nat} {fr : Nat} {R : List Nat} {y : Nat} (h : TM n nx fr R) (hy : ¬ y ∈ R) (hn : y < n) (hw : Way nx fr y) : TM n nx fr (R ++ [y]) := by
  refine ⟨?_, List.mem_append.2 (.inl h.fst), fun x hx => ?_, fun x hx => ?_⟩
  · rw [List.nodup_append]
    refine ⟨h.nodup, by simp, fun a ha b hb => ?_⟩
    rw [List.mem_singleton] at hb
    subst hb
    exact fun e => hy (e ▸ ha)
  · rcases List.mem_append.1 hx with hx | hx
    · exact h.lt x hx
    · rw [List.mem_singleton] at hx; subst hx; exact hn
  · rcases List.mem_append.1 hx with hx | hx
    · exact h.way x hx
    · rw [List.mem_singleton] at hx; subst hx; exact hw
/-- so far gone through. -/
def TClosed (nx : Nat → List Nat) (R : List Nat) (i : Nat) : Prop := ∀ j, j < i → ∀ y ∈ nx (R.getD j 0), y ∈ R
theorem TClosed.snoc {nx : Nat → List Nat} {R : List Nat} {i y : Nat} (h : TClosed nx R i) (hi : i ≤ R.length) : TClosed nx (R ++ [y]) i := fun j hj z hz => by
  rw [getD_snoc_old R y 0 (by omega)] at hz
  exact List.mem_append.2 (.inl (h j hj z hz))
theorem TM.all {n : Nat} {nx : Nat → List Nat} {fr : Nat} {R : List Nat} (h : TM n nx fr R) (hc : TClosed nx R R.length) (x : Nat) : x ∈ R ↔ Way nx fr x := by
  refine ⟨h.way x, fun hw => Way.closed (S := fun y => y ∈ R) (fun y hy k hk => ?_) h.fst hw⟩
  obtain ⟨j, hj, rfl⟩ := List.getElem_of_mem hy
  exact hc j hj k (by rw [List.getD_eq_getElem?_getD, List.getElem?_eq_getElem hj]; exact hk)
/-- how it lies. -/
structure TW (W0 wr : World) (s n : Nat) (nx : Nat → List Nat) (fr : Nat) (R : List Nat) (v : Value) : Prop where
  below : Below s W0 wr
  row : wr.rowIs s 4 n (fun j => .bool (decide (j ∈ R)))
  own : wr.ownsRow (s + 1) 3 1 v R.length (nvals R)
  ne : v ≠ .slice none 0 0
  tm : TM n nx fr R
theorem TW.later {W0 wr w' : World} {s n : Nat} {nx : Nat → List Nat} {fr : Nat} {R : List Nat} {v : Value} (h : TW W0 wr s n nx fr R v) (hb : Below wr.heap.size wr w') : TW W0 w' s n nx fr R v :=
  ⟨h.below.trans (hb.mono (Nat.le_of_lt h.row.lt)), row_later h.row hb, owns_later h.own hb (Nat.le_refl _), h.ne, h.tm⟩
theorem TW.form {W0 wr : World} {s n : Nat} {nx : Nat → List Nat} {fr : Nat} {R : List Nat} {v : Value} (h : TW W0 wr s n nx fr R v) : ∃ g cap, v = .slice (some ⟨g, 0, none⟩) R.length cap := by
  rcases h.own.2 with ⟨e, _⟩ | ⟨g, cap, cur, rfl, _⟩
  · exact absurd e h.ne
  · exact ⟨g, cap, rfl⟩
theorem TW.put {W0 wr w2 : World} {s n : Nat} {nx : Nat → List Nat} {fr : Nat} {R : List Nat} {v v' : Value} {y : Nat} {o : Obj} (h : TW W0 wr s n nx fr R v) (hy : ¬ y ∈ R) (hn : y < n) (hw : Way nx fr y)
    (hg : ((wr.setCell ⟨s, y, none⟩ (.bool true)).alloc o).grownBy w2 v.ownBlock) (ho : w2.ownsRow (s + 1) 3 1 v' (R.length + 1) (nvals R ++ [.int .i64 (y : Int)])) (hne : v' ≠ .slice none 0 0) : TW W0 w2 s n nx fr (R ++ [y]) v' := by
  have hrow : (wr.setCell ⟨s, y, none⟩ (.bool true)).rowIs s 4 n (fun j => .bool (decide (j ∈ R ++ [y]))) := (h.row.set y (.bool true)).congr fun j _ => by
    by_cases hj : j = y
    · subst hj; simp
    · rw [if_neg hj]; simp [hj]
  have hlt := h.own.lt
  have hsz : s < (wr.setCell ⟨s, y, none⟩ (.bool true)).heap.size := hrow.lt
  have hb1 : Below s W0 (wr.setCell ⟨s, y, none⟩ (.bool true)) := h.below.setCell (Nat.le_refl _) _
  have hblk : w2.heap[s]? = (wr.setCell ⟨s, y, none⟩ (.bool true)).heap[s]? := (hg.block s (by simp at hsz ⊢; omega) (fun e => by have := (hlt s e.symm).1; omega)).trans (((Below.refl _ _).alloc (Nat.le_refl _) o).block s hsz)
  refine ⟨?_, hrow.of_block hblk, ?_, hne, h.tm.snoc hy hn hw⟩
  · exact (hb1.alloc (Nat.le_of_lt hsz) o).grown hg (by simp; simp at hsz; omega) (fun k hk => by have := (hlt k hk).1; omega)
  · rw [List.length_append, nvals, List.map_append]; exact ho

set_option maxHeartbeats 3200000 in
set_option maxRecDepth 20000 in
/-- THE CONTRACT OF reaches. -/
theorem reaches_any (so no bo : Option Addr) (sc nc bn bc : Nat) (gi gm : Int) (n : Nat) (nx : Nat → List Nat) (fr : Nat) (w : World) (hn : n ≤ 20000) (hfr : fr < n) (hnx : ∀ i, i < n → ∀ k ∈ nx i, k < n) (hxl : ∀ i, i < n → (nx i).length ≤ 140737488355328)
    (hRow : ∀ p, p < n → ∃ b off, no = some ⟨b, off, none⟩ ∧ b < w.heap.size ∧ ∃ uo uc, w.cell? ⟨b, off + p, none⟩ = some (.slice uo (nx p).length uc) ∧ NatsV w (.slice uo (nx p).length uc) (nx p)) :
    Calls Try.prog 12 #[.agg #[.slice so n sc, .int .i64 gi, .slice no n nc, .slice bo bn bc, .int .i64 gm], .int .i64 (fr : Int)] w fun e w' => e = .returned (.slice (some ⟨w.heap.size + 1, 0, none⟩) n n) ∧ Below w.heap.size w w' ∧ Hid (w'.rowIs (w.heap.size + 1) 4 n (fun j => .bool ((reachB nx [fr] n).getD j false))) := by
  have hmk := run_make_row' (P := Try.prog) 35 4 (.bool false) 1 Try.underlying35 infoBool rfl .i64 .i64 n (by omega) (by omega)
  obtain ⟨W0, hW0⟩ : ∃ W0, W0 = w.alloc (.cells #[.slice so n sc, .int .i64 gi, .slice no n nc, .slice bo bn bc, .int .i64 gm] 28) := ⟨_, rfl⟩
  have hrow0 := World.rowIs_made W0 (.bool false) n 4
  have hs0 : W0.heap.size = w.heap.size + 1 := by rw [hW0]; simp
  have hb0 : Below w.heap.size w W0 := by rw [hW0]; exact (Below.refl _ _).alloc (Nat.le_refl _) _
  have k2 : W0.cell? ⟨w.heap.size, 2, none⟩ = some (.slice no n nc) := by rw [hW0]; simp [go_sem]
  have HK : Hid (∀ w1, Below (w.heap.size + 1) W0 w1 → Below w.heap.size w w1 ∧ w1.cell? ⟨w.heap.size, 2, none⟩ = some (.slice no n nc)) := fun w1 hb => ⟨hb0.trans (hb.mono (by omega)), (hb.cell (p := ⟨w.heap.size, 2, none⟩) (by show w.heap.size < _; omega)).trans k2⟩
  have HRow : Hid (∀ p, p < n → ∃ b off, no = some ⟨b, off, none⟩ ∧ b < w.heap.size ∧ ∃ uo uc, w.cell? ⟨b, off + p, none⟩ = some (.slice uo (nx p).length uc) ∧ NatsV w (.slice uo (nx p).length uc) (nx p)) := hRow
  have HXl : Hid (∀ i, i < n → (nx i).length ≤ 140737488355328) := hxl
  have HNx : Hid (∀ i, i < n → ∀ k, k < (nx i).length → (nx i).getD k 0 < n ∧ (nx i).getD k 0 ∈ nx i) := fun i hi k hk => ⟨hnx i hi _ (nat_mem hk), nat_mem hk⟩
  rw [hs0] at hrow0
  have hcf := hrow0.cell hfr
  have hff := hrow0.frozen fr
  have HI0 : Hid (TW W0 ((W0.alloc (.cells ((madeCells #[.bool false] n).setIfInBounds fr (.bool true)) 4)).alloc (.cells #[.int .i64 (fr : Int)] 3)) (w.heap.size + 1) n nx fr [fr] (.slice (some ⟨w.heap.size + 1 + 1, 0, none⟩) 1 1)) := by
    have t := hrow0.set fr (.bool true)
    rw [World.setCell_alloc_at _ _ _ _ _ (by simp [hs0])] at t
    have hsz : (W0.alloc (.cells ((madeCells #[.bool false] n).setIfInBounds fr (.bool true)) 4)).heap.size = w.heap.size + 1 + 1 := by simp [hs0]
    refine ⟨((Below.refl _ _).alloc (by omega) _).alloc (by simp; omega) _, ?_, ?_, by simp, ⟨by simp, by simp, fun x hx => by simp at hx; omega, fun x hx => by simp at hx; subst hx; exact .stay⟩⟩
    · refine row_later (t.congr fun j _ => ?_) ((Below.refl _ _).alloc (Nat.le_refl _) _)
      by_cases hj : j = fr
      · subst hj; simp
      · rw [if_neg hj]; simp [hj]
    · have := World.ownsRow_lit (W0.alloc (.cells ((madeCells #[.bool false] n).setIfInBounds fr (.bool true)) 4)) #[.int .i64 (fr : Int)] 1 (base := w.heap.size + 1 + 1) (e := 3) (size := 1) (by omega) (by decide) rfl
      rw [hsz] at this
      exact this
  have HW0 : Hid (W0 = w.alloc (.cells #[.slice so n sc, .int .i64 gi, .slice no n nc, .slice bo bn bc, .int .i64 gm] 28)) := hW0
  clear hRow hxl hnx k2 hb0 hrow0
  obtain ⟨i0, hi, hz0, hz1, hz2⟩ := info_parts infoInt
  rw [hW0] at hcf hff
  go_enter Try.func12, Try.ntmps12
  go_wp2_with fail
  rw [← hW0]
  clear hW0 hmk hcf hff
  go_loopw [6, 7] (fun v i wr => ∃ (k : Nat) (R : List Nat), k ≤ R.length ∧ i = .int .i64 k ∧ Hid (TW W0 wr (w.heap.size + 1) n nx fr R v ∧ TClosed nx R k)) (fun _ i _ => n - (intOf i).toNat)
  case atStart => exact ⟨0, [fr], by simp, rfl, HI0.out, fun j hj => by omega⟩
  case round =>
    obtain ⟨k, R, hkR, rfl, HT⟩ := hrel
    obtain ⟨g, gc, rfl⟩ := HT.out.1.form
    have hRn := HT.out.1.tm.length
    have hbr := (HK.out wr HT.out.1.below)
    by_cases hlt : k < R.length
    · have hcl : wr.cell? ⟨g, k, none⟩ = some (.int .i64 (R.getD k 0 : Int)) := by
        rw [HT.out.1.own.cellAt k (by omega)]
        simp [nvals, List.getD_eq_getElem?_getD, hlt]
      have hpn : R.getD k 0 < n := HT.out.1.tm.lt _ (nat_mem hlt)
      obtain ⟨nb, noff, rfl, hnb, uo, uc, hcu0, hnat⟩ := HRow.out _ hpn
      have hxl := HXl.out _ hpn
      have HNp : Hid (∀ j, j < (nx (R.getD k 0)).length → (nx (R.getD k 0)).getD j 0 < n ∧ (nx (R.getD k 0)).getD j 0 ∈ nx (R.getD k 0)) := HNx.out _ hpn
      have HNat : Hid (NatsV w (.slice uo (nx (R.getD k 0)).length uc) (nx (R.getD k 0))) := hnat
      have HI1 : Hid (∃ R' , k < R'.length ∧ R'.getD k 0 = R.getD k 0 ∧ TW W0 wr (w.heap.size + 1) n nx fr R' (.slice (some ⟨g, 0, none⟩) R.length gc) ∧ TClosed nx R' k ∧ ∀ j, j < 0 → (nx (R.getD k 0)).getD j 0 ∈ R') := ⟨R, hlt, rfl, HT.out.1, HT.out.2, fun j hj => by omega⟩
      generalize R.getD k 0 = p at *
      obtain ⟨ln, hln⟩ : ∃ ln, ln = (nx p).length := ⟨_, rfl⟩
      have HLN : Hid (ln = (nx p).length) := hln
      rw [← hln] at hcu0 hxl HNat HNp
      have hkn : k < n := by omega
      have HB1 : Hid (Below w.heap.size w wr) := hbr.1
      generalize R.length = L0 at *
      clear hnat hln hbr hcl HT
      go_wp2_with fail
      generalize wr = wo at *
      go_loopw [6, 8] (fun v i wr => ∃ q : Nat, q ≤ ln ∧ i = .int .i64 q ∧ Hid (∃ R' , k < R'.length ∧ R'.getD k 0 = p ∧ TW W0 wr (w.heap.size + 1) n nx fr R' v ∧ TClosed nx R' k ∧ ∀ j, j < q → (nx p).getD j 0 ∈ R')) (fun _ i _ => ln - (intOf i).toNat)
      case atStart => exact ⟨0, Nat.zero_le _, rfl, HI1⟩
      case round =>
        obtain ⟨q, hq, rfl, HQ⟩ := hrel
        obtain ⟨R', hkR', hRp, hTW, hTC, hin⟩ := HQ.out
        obtain ⟨g2, gc2, rfl⟩ := hTW.form
        obtain ⟨hbw, krq⟩ := HK.out wr hTW.below
        have hcl : wr.cell? ⟨g2, k, none⟩ = some (.int .i64 (p : Int)) := by
          rw [hTW.own.cellAt k (by omega)]
          have := hRp
          simp [nvals, List.getD_eq_getElem?_getD, hkR'] at this ⊢
          omega
        have hcu := (hbw.cell (p := ⟨nb, noff + p, none⟩) hnb).trans hcu0
        have hRn2 := hTW.tm.length
        by_cases hlq : q < ln
        · obtain ⟨ub, uoff, rfl, hub, hcy0⟩ := HNat.out.num (i := q) (by rw [← HLN.out]; exact hlq)
          have hcy := (hbw.cell (p := ⟨ub, uoff + q, none⟩) hub).trans hcy0
          obtain ⟨hyn, hym⟩ := HNp.out q hlq
          have hrc := hTW.row.cell hyn
          have hrf := hTW.row.frozen ((nx p).getD q 0)
          obtain ⟨L2, hL2⟩ : ∃ L2, L2 = R'.length := ⟨_, rfl⟩
          have HL2 : Hid (L2 = R'.length) := hL2
          have hown := hTW.own
          have hlt2 := hown.lt
          have hs1 := hTW.row.lt
          by_cases hyR : (nx p).getD q 0 ∈ R'
          · have HN : Hid (∀ w4, Below wr.heap.size wr w4 → ∃ R' , k < R'.length ∧ R'.getD k 0 = p ∧ TW W0 w4 (w.heap.size + 1) n nx fr R' (.slice (some ⟨g2, 0, none⟩) L2 gc2) ∧ TClosed nx R' k ∧ ∀ j, j < q + 1 → (nx p).getD j 0 ∈ R') := fun w4 hb => ⟨R', hkR', hRp, by rw [hL2]; exact hTW.later hb, hTC, fun j hj => by
                by_cases hjq : j < q
                · exact hin j hjq
                · obtain rfl : j = q := by omega
                  exact hyR⟩
            rw [decide_eq_true hyR] at hrc
            rw [← hL2] at hkR' hRn2 ⊢
            generalize (nx p).getD q 0 = y at *
            clear hTW hTC hin hRp hyR HQ hcy0 hL2 hym hown hbw
            go_wp2_with fail
            go_quiet (fail)
            go_wp2_with fail
            go_quiet (fail)
            go_wp2_with fail
            go_roundw
            case rel => exact ⟨q + 1, hlq, by go_num, HN.out _ (below_drewN (Below.refl _ _) _)⟩
            case measure => simp [intOf]; omega
          · have hway : Way nx fr ((nx p).getD q 0) := (hTW.tm.way p (by rw [← hRp]; exact nat_mem hkR')).step hym
            have HN : Hid (∀ (w4 w5 : World) (v' : Value) (o : Obj), Below wr.heap.size wr w4 → ((w4.setCell ⟨w.heap.size + 1, (nx p).getD q 0, none⟩ (.bool true)).alloc o).grownBy w5 (some g2) → w5.ownsRow (w.heap.size + 1 + 1) 3 1 v' (L2 + 1) (nvals R' ++ [.int .i64 ((nx p).getD q 0 : Int)]) → v' ≠ .slice none 0 0 → ∃ R' , k < R'.length ∧ R'.getD k 0 = p ∧ TW W0 w5 (w.heap.size + 1) n nx fr R' v' ∧ TClosed nx R' k ∧ ∀ j, j < q + 1 → (nx p).getD j 0 ∈ R') := fun w4 w5 v' o hb h1 h2 h3 => ⟨R' ++ [(nx p).getD q 0], by simp; omega, by rw [getD_snoc_old R' _ 0 hkR']; exact hRp, (hTW.later hb).put hyR hyn hway h1 (by rw [hL2] at h2; exact h2) h3, hTC.snoc (by omega), fun j hj => by
                by_cases hjq : j < q
                · exact List.mem_append.2 (.inl (hin j hjq))
                · obtain rfl : j = q := by omega
                  simp⟩
            rw [decide_eq_false hyR] at hrc
            rw [← hL2] at hkR' hRn2 hown hlt2 ⊢
            generalize (nx p).getD q 0 = y at *
            have h63 : L2 + 1 ≤ maxLen := by unfold maxLen; omega
            have hkb : (L2 + 1) * 8 ≤ 140737488355328 := by omega
            clear hTW hTC hin hRp hyR HQ hcy0 hL2 hym hbw hway
            have HOw : Hid (wr.ownsRow (w.heap.size + 1 + 1) 3 1 (.slice (some ⟨g2, 0, none⟩) L2 gc2) L2 (nvals R')) := hown
            clear hown
            go_wp2_with fail
            go_quiet (fail)
            go_wp2_with fail
            go_quiet (fail)
            generalize hwd : World.drewN (World.drewN wr _) _ = wd
            have hbd : Below wr.heap.size wr wd := by rw [← hwd]; exact below_drewN (below_drewN (Below.refl _ _) _) _
            have hrcd := (hbd.cell (p := ⟨w.heap.size + 1, y, none⟩) hs1).trans hrc
            have hrfd := (hbd.frozen (p := ⟨w.heap.size + 1, y, none⟩) hs1).trans hrf
            have hown4 := fun o => (owns_low (owns_later HOw.out hbd (Nat.le_refl _)) (p := ⟨w.heap.size + 1, y, none⟩) (by show w.heap.size + 1 < _; omega) (.bool true)).alloc o
            have hbase : ∀ o, w.heap.size + 1 + 1 ≤ ((wd.setCell ⟨w.heap.size + 1, y, none⟩ (.bool true)).alloc o).heap.size := fun o => by have := hbd.size; simp; omega
            have hcn := cell_one_new (wd.setCell ⟨w.heap.size + 1, y, none⟩ (.bool true)) (.int .i64 (y : Int)) 3
            rw [show (wd.setCell ⟨w.heap.size + 1, y, none⟩ (.bool true)).heap.size = wd.heap.size by simp] at hcn
            clear hwd hcl hcu krq hcy hrc hrf
            go_wp2_with (at_builtin; refine wpList_append_own _ rfl (.tmp 57) (.tmp 59) 23 rfl (w.heap.size + 1 + 1) 3 i0 (.int .i64 0) 1 8 Try.underlying23 hi hz0 hz1 hz2 rfl (by decide) (.slice (some ⟨g2, 0, none⟩) L2 gc2) L2 (nvals R') rfl (hown4 _) ⟨wd.heap.size, 0, none⟩ 1 1 [.int .i64 y] rfl rfl hcn (by intro u hu; simp at hu; subst hu; rfl) h63 hkb (hbase _) ?_; intro v' w5 hown' hgrow hnil)
            have HN5 : Hid (∃ R' , k < R'.length ∧ R'.getD k 0 = p ∧ TW W0 w5 (w.heap.size + 1) n nx fr R' v' ∧ TClosed nx R' k ∧ ∀ j, j < q + 1 → (nx p).getD j 0 ∈ R') := HN.out wd w5 v' _ hbd hgrow hown' (fun e => by exact absurd (hnil.1 e).2 (by decide))
            go_roundw
            case rel => exact ⟨q + 1, hlq, by go_num, HN5⟩
            case measure => simp [intOf]; omega
        · obtain rfl : q = ln := by omega
          have HN : Hid (∀ w4, Below wr.heap.size wr w4 → TW W0 w4 (w.heap.size + 1) n nx fr R' (.slice (some ⟨g2, 0, none⟩) R'.length gc2) ∧ TClosed nx R' (k + 1)) := fun w4 hb => ⟨hTW.later hb, fun j hj y hy => by
            by_cases hjk : j < k
            · exact hTC j hjk y hy
            · obtain rfl : j = k := by omega
              rw [hRp] at hy
              obtain ⟨i, hi', rfl⟩ := List.getElem_of_mem hy
              have := hin i (by rw [HLN.out]; exact hi')
              rwa [List.getD_eq_getElem?_getD, List.getElem?_eq_getElem hi'] at this⟩
          obtain ⟨L2, hL2⟩ : ∃ L2, L2 = R'.length := ⟨_, rfl⟩
          have HL2 : Hid (L2 = R'.length) := hL2
          rw [← hL2] at hkR' hRn2 HN ⊢
          clear hTW hTC hin hRp HQ hL2 hbw
          go_wp2_with fail
          go_quiet (fail)
          go_wp2_with fail
          go_roundw
          case rel => exact ⟨k + 1, R', by have := HL2.out; omega, by go_num, HN.out _ (below_drewN (Below.refl _ _) _)⟩
          case measure => simp [intOf]; omega
    · obtain rfl : k = R.length := by omega
      have HRes : Hid (wr.rowIs (w.heap.size + 1) 4 n (fun j => .bool ((reachB nx [fr] n).getD j false))) := by
          classical
          refine HT.out.1.row.congr fun j hj => ?_
          have : (reachB nx [fr] n).getD j false = decide (j ∈ R) := by
            have e : (reachB nx [fr] n).getD j false = decide (∃ f ∈ [fr], Way nx f j) := by simp [reachB, List.getD_eq_getElem?_getD, hj]
            rw [e]
            have := HT.out.1.tm.all HT.out.2 j
            by_cases hjR : j ∈ R
            · rw [decide_eq_true hjR, decide_eq_true ⟨fr, by simp, this.1 hjR⟩]
            · rw [decide_eq_false hjR, decide_eq_false (fun ⟨f, hf, hw⟩ => by simp at hf; subst hf; exact hjR (this.2 hw))]
          rw [this]
      have hb := hbr.1
      generalize R.length = L0 at *
      clear HT hbr
      go_wp2_with fail
      go_ret
      exact ⟨rfl, hb, HRes⟩
end Go.Proofs.Ytalpodgndfnjcaa
