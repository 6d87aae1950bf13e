/-
  The contract of the document's own LassoFits, at a lasso that fits.
-/
import Derived.Test.YtknneajaklcjdaaRefFair
import Derived.Test.YtknneajaklcjdaaSLasso
import Derived.Deep.QuietTactic
import Derived.BigQuiet
namespace Go.Proofs.Ytknneajaklcjdaa
open Go.ChangeShapes Go.WideShapes Go.ChangeAt Go.RowKit Go.Deep
open Terms

theorem trail_at {nx : Nat → List Nat} : ∀ {l : List Nat}, Trail nx l → ∀ i, i + 1 < l.length → l.getD (i + 1) 0 ∈ nx (l.getD i 0)
  | [], _, i, h => by simp at h
  | [_], _, i, h => by simp at h
  | a :: b :: l, ⟨h1, h2⟩, 0, _ => h1
  | a :: b :: l, ⟨h1, h2⟩, i + 1, h => by
    have := trail_at h2 i (by simpa using h)
    simpa using this
theorem getD_snoc_lt {a : List Nat} {x i : Nat} (h : i < a.length) : (a ++ [x]).getD i 0 = a.getD i 0 := by rw [List.getD_eq_getElem?_getD, List.getD_eq_getElem?_getD, List.getElem?_append_left h]
theorem getD_snoc_eq {a : List Nat} {x i : Nat} (h : i = a.length) : (a ++ [x]).getD i 0 = x := by subst h; simp [List.getD_eq_getElem?_getD]
theorem nvals_snoc {l : List Nat} {c : Nat} (h : c < l.length) : nvals (l.take (c + 1)) = nvals (l.take c) ++ [.int .i64 (l.getD c 0 : Int)] := by
  have ht : l.take (c + 1) = l.take c ++ [l.getD c 0] := by
    rw [List.take_add_one, List.getElem?_eq_getElem h, List.getD_eq_getElem?_getD, List.getElem?_eq_getElem h]
    rfl
  rw [ht]
  simp [nvals]
theorem nvals_app (a b : List Nat) : nvals (a ++ b) = nvals a ++ nvals b := by simp [nvals]
/-- some of the first so many leads there. -/
def LdK (l : List Nat) (y k : Nat) : Prop := ∃ q, q < k ∧ l.getD q 0 = y
theorem LdK_succ {l : List Nat} {y k : Nat} : LdK l y (k + 1) ↔ LdK l y k ∨ l.getD k 0 = y := by
  constructor
  · rintro ⟨q, h1, h2⟩
    by_cases e : q < k
    · exact .inl ⟨q, e, h2⟩
    · obtain rfl : q = k := by omega
      exact .inr h2
  · rintro (⟨q, h1, h2⟩ | h)
    · exact ⟨q, by omega, h2⟩
    · exact ⟨k, by omega, h⟩
def MlK (sn : Nat → Nat) (l : List Nat) (pw k : Nat) : Prop := ∃ q, q < k ∧ sn (l.getD q 0) / pw % 2 = 1
theorem MlK_succ {sn : Nat → Nat} {l : List Nat} {pw k : Nat} : MlK sn l pw (k + 1) ↔ MlK sn l pw k ∨ sn (l.getD k 0) / pw % 2 = 1 := by
  constructor
  · rintro ⟨q, h1, h2⟩
    by_cases e : q < k
    · exact .inl ⟨q, e, h2⟩
    · obtain rfl : q = k := by omega
      exact .inr h2
  · rintro (⟨q, h1, h2⟩ | h)
    · exact ⟨q, by omega, h2⟩
    · exact ⟨k, by omega, h⟩

set_option maxHeartbeats 6400000 in
set_option maxRecDepth 20000 in
/-- A LASSO THAT FITS. -/
theorem lfits_true (so no bo ao lo : Option Addr) (sc nc bc ac lc : Nat) (g : Gr) (st lp : List Nat) (w : World) (hV : GraphV w (.slice so g.spots.length sc) (.slice no g.next.length nc) (.slice bo g.sets.length bc) g) (hc : gcode g = 0) (htot : totN (nxt g) g.spots.length ≤ 1099511627776) (hls : st.length ≤ 20000) (hll : lp.length ≤ 2000000) (hL : LassoOk g st lp) (hS : NatsV w (.slice ao st.length ac) st) (hP : NatsV w (.slice lo lp.length lc) lp) :
    Calls Try.prog 14 #[.agg #[.slice so g.spots.length sc, .int .i64 g.init, .slice no g.next.length nc, .slice bo g.sets.length bc, .int .i64 g.many], .agg #[.slice ao st.length ac, .slice lo lp.length lc]] w fun e w' => e = .returned (.bool true) ∧ Below w.heap.size w w' := by
  have hok := gcode_zero hc
  obtain ⟨n, hn⟩ : ∃ n, n = g.spots.length := ⟨_, rfl⟩
  have hnn : g.next.length = n := by rw [hn]; exact hok.head.next
  have hsn : g.sets.length = n := by rw [hn]; exact hok.head.sets
  have hn2 : n ≤ 20000 := by rw [hn]; exact hok.head.n
  obtain ⟨mm, hmm⟩ : ∃ mm : Nat, g.many = (mm : Int) := ⟨g.many.toNat, by have := hok.head.many0; omega⟩
  obtain ⟨gi, hgi⟩ : ∃ gi : Nat, g.init = (gi : Int) := ⟨g.init.toNat, by have := hok.head.init0; omega⟩
  have hmN : mN g = mm := by unfold mN; omega
  have hm6 : mm ≤ 6 := by have := hok.head.many6; omega
  obtain ⟨sl, hsl⟩ : ∃ sl, st.length = sl := ⟨_, rfl⟩
  obtain ⟨ll, hll2⟩ : ∃ ll, lp.length = ll := ⟨_, rfl⟩
  have hl1 : 0 < ll := by
    rw [← hll2]
    exact List.length_pos_iff.2 hL.ne
  obtain ⟨lb, lof, hlo, hlc⟩ : ∃ lb lof, lo = some ⟨lb, lof, none⟩ ∧ ∀ i, i < ll → w.cell? ⟨lb, lof + i, none⟩ = some (.int .i64 (lp.getD i 0 : Int)) := by
    obtain ⟨a1, c1, e1, e2⟩ := hP
    injection e1 with e3 e4 e5
    obtain ⟨b, off, e6, _, e7⟩ := e2 hL.ne
    exact ⟨b, off, e3.trans e6, fun i hi => e7 i (by rw [hll2]; exact hi)⟩
  subst hlo
  have HSt : Hid (∀ i, i < sl → ∃ sb sof, ao = some ⟨sb, sof, none⟩ ∧ w.cell? ⟨sb, sof + i, none⟩ = some (.int .i64 (st.getD i 0 : Int))) := fun i hi => by
    obtain ⟨a1, c1, e1, e2⟩ := hS
    injection e1 with e3 e4 e5
    obtain ⟨b, off, e6, _, e7⟩ := e2 (fun e => by rw [e] at hsl; simp at hsl; omega)
    exact ⟨b, off, e3.trans e6, e7 i (by rw [hsl]; exact hi)⟩
  have HLp : Hid (∀ W, Below w.heap.size w W → ∀ i, i < ll → W.cell? ⟨lb, lof + i, none⟩ = some (.int .i64 (lp.getD i 0 : Int)) ∧ lp.getD i 0 < n) := fun W hb i hi => by
    refine ⟨(hb.cell (p := ⟨lb, lof + i, none⟩) (World.block_lt_of_cell? _ _ (hlc i hi))).trans (hlc i hi), ?_⟩
    rw [hn]
    refine hL.lt _ (List.mem_append.2 (.inr ?_))
    rw [List.getD_eq_getElem?_getD, List.getElem?_eq_getElem (by rw [hll2]; exact hi)]
    exact List.getElem_mem _
  obtain ⟨W0, hW0⟩ : ∃ W0, W0 = (w.alloc (.cells #[.slice so n sc, .int .i64 (gi : Int), .slice no n nc, .slice bo n bc, .int .i64 (mm : Int)] 26)).alloc (.cells #[.slice ao sl ac, .slice (some ⟨lb, lof, none⟩) ll lc] 37) := ⟨_, rfl⟩
  have hA : Below w.heap.size w W0 := by rw [hW0]; exact ((Below.refl _ _).alloc (Nat.le_refl _) _).alloc (by simp) _
  have hs0 : W0.heap.size = w.heap.size + 2 := by rw [hW0]; simp
  have HD : Hid (∀ w1, Below W0.heap.size W0 w1 → (w1.cell? ⟨w.heap.size, 0, none⟩ = some (.slice so n sc) ∧ w1.cell? ⟨w.heap.size, 1, none⟩ = some (.int .i64 (gi : Int)) ∧ w1.cell? ⟨w.heap.size, 2, none⟩ = some (.slice no n nc) ∧ w1.cell? ⟨w.heap.size, 3, none⟩ = some (.slice bo n bc) ∧ w1.cell? ⟨w.heap.size, 4, none⟩ = some (.int .i64 (mm : Int))) ∧ w1.cell? ⟨w.heap.size + 1, 0, none⟩ = some (.slice ao sl ac) ∧ w1.cell? ⟨w.heap.size + 1, 1, none⟩ = some (.slice (some ⟨lb, lof, none⟩) ll lc)) := fun w1 hb => by
    have h1 : W0.heap[w.heap.size]? = some (.cells #[.slice so n sc, .int .i64 (gi : Int), .slice no n nc, .slice bo n bc, .int .i64 (mm : Int)] 26 (0, 0)) := by rw [hW0, blk_alloc_lt _ _ _ (by simp), blk_alloc_new]
    have h2 : W0.heap[w.heap.size + 1]? = some (.cells #[.slice ao sl ac, .slice (some ⟨lb, lof, none⟩) ll lc] 37 (0, 0)) := by
      have := blk_alloc_new (w.alloc (.cells #[.slice so n sc, .int .i64 (gi : Int), .slice no n nc, .slice bo n bc, .int .i64 (mm : Int)] 26)) (.cells #[.slice ao sl ac, .slice (some ⟨lb, lof, none⟩) ll lc] 37)
      rw [hW0]
      simpa using this
    have e1 := (hb.block w.heap.size (by omega)).trans h1
    have e2 := (hb.block (w.heap.size + 1) (by omega)).trans h2
    refine ⟨⟨?_, ?_, ?_, ?_, ?_⟩, ?_, ?_⟩ <;> simp [World.cell?, e1, e2]
  have HRw : Hid (∀ w1, Below w.heap.size w w1 → ∀ k, k < n → ∃ rb roff ub uoff uc, no = some ⟨rb, roff, none⟩ ∧ w1.cell? ⟨rb, roff + k, none⟩ = some (.slice ub (nxt g k).length uc) ∧ ∀ q, q < (nxt g k).length → ∃ b2, ub = some ⟨b2, uoff, none⟩ ∧ w1.cell? ⟨b2, uoff + q, none⟩ = some (.int .i64 ((nxt g k).getD q 0 : Int))) := fun w1 hb k hk => by
    obtain ⟨rb, roff, h1, h2, uo, uc, h3, h4⟩ := graph_rowsR hok (hV.below hb) k (by rw [← hn]; exact hk)
    obtain ⟨a1, cap, e1, e2⟩ := h4
    injection e1 with e3 e4 e5
    by_cases hl : nxt g k = []
    · exact ⟨rb, roff, uo, 0, uc, h1, h3, fun q hq => by rw [hl] at hq; simp at hq⟩
    · obtain ⟨b2, off, e6, _, e7⟩ := e2 hl
      exact ⟨rb, roff, uo, off, uc, h1, h3, fun q hq => ⟨b2, e3.trans e6, e7 q hq⟩⟩
  have HSe : Hid (∀ w1, Below w.heap.size w w1 → 0 < n → ∃ tb tof, bo = some ⟨tb, tof, none⟩ ∧ ∀ k, k < n → w1.cell? ⟨tb, tof + k, none⟩ = some (.int .i64 (sN g k : Int)) ∧ sN g k < 64) := fun w1 hb h0 => by
    obtain ⟨a1, cap, e1, e2⟩ := (hV.below hb).sets
    injection e1 with e3 e4 e5
    obtain ⟨tb, tof, e6, _, e7⟩ := e2 (fun e => by rw [e] at hsn; simp at hsn; omega)
    refine ⟨tb, tof, e3.trans e6, fun k hk => ?_⟩
    have h9 := hok.sN (x := k) (by rw [← hn]; exact hk)
    have h8 := e7 k (by rw [hsn]; exact hk)
    rw [h9.1] at h8
    refine ⟨h8, Nat.lt_of_lt_of_le h9.2 ?_⟩
    exact pow64 (by rw [hmN]; exact hm6)
  have HLe : Hid (∀ k, k < n → (nxt g k).length ≤ 1099511627776) := fun k hk => Nat.le_trans (totN_at (nx := nxt g) (n := g.spots.length) (by rw [← hn]; exact hk)) htot
  have HTr : Hid (∀ i, i < sl + ll → (st ++ lp).getD i 0 < n ∧ (if i + 1 < sl + ll then (st ++ lp).getD (i + 1) 0 else lp.getD 0 0) ∈ nxt g ((st ++ lp).getD i 0)) := fun i hi => by
    have hlen : (st ++ lp).length = sl + ll := by rw [List.length_append, hsl, hll2]
    constructor
    · rw [hn]
      refine hL.lt _ ?_
      rw [List.getD_eq_getElem?_getD, List.getElem?_eq_getElem (by rw [hlen]; exact hi)]
      exact List.getElem_mem _
    · have h9 := trail_at hL.trail i (by rw [List.length_append, hlen]; simp; omega)
      rw [getD_snoc_lt (by rw [hlen]; exact hi)] at h9
      by_cases e : i + 1 < sl + ll
      · rw [if_pos e]
        rw [getD_snoc_lt (by rw [hlen]; exact e)] at h9
        exact h9
      · rw [if_neg e]
        rw [getD_snoc_eq (by rw [hlen]; omega)] at h9
        exact h9
  have HBt : Hid (∀ s, s < mm → MlK (sN g) lp (2 ^ s) ll) := fun s hs => by
    obtain ⟨x, h1, h2⟩ := hL.bits s (by rw [hmN]; exact hs)
    obtain ⟨q, hq, rfl⟩ := List.mem_iff_getElem.1 h1
    refine ⟨q, by rw [← hll2]; exact hq, ?_⟩
    rw [List.getD_eq_getElem?_getD, List.getElem?_eq_getElem hq]
    rw [Nat.testBit_eq_decide_div_mod_eq] at h2
    exact of_decide_eq_true h2
  have HHd : Hid ((st ++ lp).getD 0 0 < gi) := by
    show _ < _
    have := hL.head
    rw [hgi] at this
    omega
  have HSn : Hid (∀ c, c < sl → nvals (st.take (c + 1)) = nvals (st.take c) ++ [.int .i64 (st.getD c 0 : Int)]) := fun c h => nvals_snoc (by rw [hsl]; exact h)
  have HSm : Hid (∀ c, c < ll → nvals (st ++ lp.take (c + 1)) = nvals (st ++ lp.take c) ++ [.int .i64 (lp.getD c 0 : Int)]) := fun c h => by rw [nvals_app, nvals_app, nvals_snoc (by rw [hll2]; exact h), List.append_assoc]
  have HSe0 : Hid (st.take sl = st ∧ lp.take ll = lp ∧ (st ++ lp).length = sl + ll) := ⟨by rw [← hsl]; exact List.take_length, by rw [← hll2]; exact List.take_length, by rw [List.length_append, hsl, hll2]⟩
  have HW0 : Hid (W0 = (w.alloc (.cells #[.slice so n sc, .int .i64 (gi : Int), .slice no n nc, .slice bo n bc, .int .i64 (mm : Int)] 26)).alloc (.cells #[.slice ao sl ac, .slice (some ⟨lb, lof, none⟩) ll lc] 37)) := hW0
  rw [hsl] at hls ⊢
  rw [hll2] at hll ⊢
  rw [hmm, hgi, hnn, hsn, ← hn]
  obtain ⟨i0, hi0, hz0, hz1, hz2⟩ := info_parts infoInt
  generalize nxt g = nx at *
  generalize sN g = sn at *
  clear hV hc htot hnn hsn hn hmm hmN hok hS hP hsl hll2 hlc hgi hL
  go_enter Try.func14, Try.ntmps14
  go_upto_block 0 with fail
  rw [← hW0]
  clear hW0
  go_cut [5, 6] from 16 to 30 (fun v _ wx => ∃ vo vc, v = .slice vo sl vc ∧ Hid (wx.ownsRow W0.heap.size 3 1 (.slice vo sl vc) sl (nvals st) ∧ Below W0.heap.size W0 wx))
  case first =>
    go_wp2_with fail
    go_loopw [5, 6] (fun out i wr => ∃ c : Nat, c ≤ sl ∧ i = .int .i64 (c : Int) ∧ Hid (wr.ownsRow W0.heap.size 3 1 out c (nvals (st.take c)) ∧ Below W0.heap.size W0 wr)) (fun _ i _ => sl - (intOf i).toNat)
    case atStart => exact ⟨0, Nat.zero_le _, rfl, World.ownsRow_nil _ _ _ _, Below.refl _ _⟩
    case round =>
      obtain ⟨c, hc, rfl, HR⟩ := hrel
      obtain ⟨-, d0, d1⟩ := HD.out wr HR.out.2
      have hown := HR.out.1
      have hnb := hown.lt
      obtain ⟨oo, oc, rfl⟩ := owns_slice hown
      by_cases hlc : c < sl
      · have hlci : (c : Int) < (sl : Int) := by omega
        obtain ⟨sb, sof, hao, hcl⟩ := HSt.out c hlc
        subst hao
        have hbw := hA.trans (HR.out.2.mono hA.size)
        have d2 := (hbw.cell (p := ⟨sb, sof + c, none⟩) (World.block_lt_of_cell? _ _ hcl)).trans hcl
        have h63 : c + 1 ≤ maxLen := by unfold maxLen; omega
        have hkb : (c + 1) * 8 ≤ 140737488355328 := by omega
        have hown4 := fun o => hown.alloc o
        have hbase : ∀ o, W0.heap.size ≤ (wr.alloc o).heap.size := fun o => by have := HR.out.2.size; simp; omega
        have hbr := HR.out.2
        have HNs : Hid (nvals (st.take (c + 1)) = nvals (st.take c) ++ [.int .i64 (st.getD c 0 : Int)]) := HSn.out c hlc
        generalize st.getD c 0 = x at *
        clear hown HR hcl
        go_wp2_with (at_builtin; refine wpList_append_own _ rfl (.tmp 23) (.tmp 29) 24 rfl W0.heap.size 3 i0 (.int .i64 0) 1 8 Try.underlying24 hi0 hz0 hz1 hz2 rfl (by decide) (.slice oo c oc) c _ rfl (hown4 _) ⟨wr.heap.size, 0, none⟩ 1 1 [.int .i64 (x : Int)] rfl rfl (cell_one_new _ _ _) (by intro u hu; simp at hu; subst hu; rfl) h63 hkb (hbase _) ?_; intro v' w4 hown' hgrow _)
        have hb4 : Below W0.heap.size W0 w4 := (hbr.alloc hbr.size _).grown hgrow (hbase _) (fun z hz => (hnb z hz).1)
        have ho4 : w4.ownsRow W0.heap.size 3 1 v' (c + 1) (nvals (st.take (c + 1))) := by
          rw [HNs.out]
          exact hown'
        go_roundw
        case rel => exact ⟨c + 1, hlc, by go_num, ho4, hb4⟩
        case measure => simp [intOf]; omega
      · obtain rfl : c = sl := by omega
        have HO : Hid (wr.ownsRow W0.heap.size 3 1 (.slice oo c oc) c (nvals st) ∧ Below W0.heap.size W0 wr) := by
          have := HR.out
          rw [HSe0.out.1] at this
          exact this
        clear hown
        go_wp2_with fail
        go_meet
        exact ⟨oo, oc, rfl, HO⟩
  case rest =>
    obtain ⟨vo, vc, rfl, HO1⟩ := hcut
    obtain ⟨w3, rfl⟩ : ∃ w3, w3 = wc := ⟨_, rfl⟩
    go_upto_block 2 with fail
    go_cut [5, 7] from 31 to 45 (fun v _ wx => ∃ ab vc, v = .slice (some ⟨ab, 0, none⟩) (sl + ll) vc ∧ Hid (Below W0.heap.size W0 wx ∧ ∀ i, i < sl + ll → wx.cell? ⟨ab, i, none⟩ = some (.int .i64 ((st ++ lp).getD i 0 : Int))))
    case first =>
      go_wp2_with fail
      go_loopw [5, 7] (fun out i wr => ∃ c : Nat, c ≤ ll ∧ i = .int .i64 (c : Int) ∧ Hid (wr.ownsRow W0.heap.size 3 1 out (sl + c) (nvals (st ++ lp.take c)) ∧ Below W0.heap.size W0 wr)) (fun _ i _ => ll - (intOf i).toNat)
      case atStart => exact ⟨0, Nat.zero_le _, rfl, by simpa using HO1.out.1, HO1.out.2⟩
      case round =>
        obtain ⟨c, hc, rfl, HR⟩ := hrel
        obtain ⟨-, d0, d1⟩ := HD.out wr HR.out.2
        have hown := HR.out.1
        have hnb := hown.lt
        obtain ⟨oo, oc, rfl⟩ := owns_slice hown
        by_cases hlc : c < ll
        · have hlci : (c : Int) < (ll : Int) := by omega
          have hbw := hA.trans (HR.out.2.mono hA.size)
          have d2 := (HLp.out wr hbw c hlc).1
          obtain ⟨q, hq⟩ : ∃ q, sl + c = q := ⟨_, rfl⟩
          rw [hq] at hown
          have h63 : q + 1 ≤ maxLen := by unfold maxLen; omega
          have hkb : (q + 1) * 8 ≤ 140737488355328 := by omega
          have hown4 := fun o => hown.alloc o
          have hbase : ∀ o, W0.heap.size ≤ (wr.alloc o).heap.size := fun o => by have := HR.out.2.size; simp; omega
          have hbr := HR.out.2
          have HNs : Hid (nvals (st ++ lp.take (c + 1)) = nvals (st ++ lp.take c) ++ [.int .i64 (lp.getD c 0 : Int)]) := HSm.out c hlc
          have HQ : Hid (sl + c = q) := hq
          generalize lp.getD c 0 = x at *
          rw [hq]
          clear hown HR hq
          go_wp2_with (at_builtin; refine wpList_append_own _ rfl (.tmp 38) (.tmp 44) 24 rfl W0.heap.size 3 i0 (.int .i64 0) 1 8 Try.underlying24 hi0 hz0 hz1 hz2 rfl (by decide) (.slice oo q oc) q _ rfl (hown4 _) ⟨wr.heap.size, 0, none⟩ 1 1 [.int .i64 (x : Int)] rfl rfl (cell_one_new _ _ _) (by intro u hu; simp at hu; subst hu; rfl) h63 hkb (hbase _) ?_; intro v' w4 hown' hgrow _)
          have hb4 : Below W0.heap.size W0 w4 := (hbr.alloc hbr.size _).grown hgrow (hbase _) (fun z hz => (hnb z (by rw [HQ.out]; exact hz)).1)
          have ho4 : w4.ownsRow W0.heap.size 3 1 v' (sl + (c + 1)) (nvals (st ++ lp.take (c + 1))) := by
            rw [HNs.out, ← Nat.add_assoc, HQ.out]
            exact hown'
          go_roundw
          case rel => exact ⟨c + 1, hlc, by go_num, ho4, hb4⟩
          case measure => simp [intOf]; omega
        · obtain rfl : c = ll := by omega
          obtain ⟨ab, hab⟩ : ∃ ab, oo = some ⟨ab, 0, none⟩ := by
            rcases hown.2 with ⟨h1, h2⟩ | ⟨g1, cap1, cur1, h1, _⟩
            · omega
            · injection h1 with h3
              exact ⟨g1, h3⟩
          subst hab
          have HO : Hid (Below W0.heap.size W0 wr ∧ ∀ i, i < sl + c → wr.cell? ⟨ab, i, none⟩ = some (.int .i64 ((st ++ lp).getD i 0 : Int))) := by
            refine ⟨HR.out.2, fun i hi => ?_⟩
            have h9 := hown.cellAt i (by omega)
            rw [HSe0.out.2.1] at h9
            rw [h9]
            have hl9 := HSe0.out.2.2
            obtain ⟨L9, hL9⟩ : ∃ L9, st ++ lp = L9 := ⟨_, rfl⟩
            rw [hL9] at hl9 ⊢
            simp [nvals, List.getD_eq_getElem?_getD, List.getElem?_eq_getElem (show i < L9.length by omega)]
          clear hown HR hnb
          go_wp2_with fail
          go_meet
          exact ⟨ab, oc, rfl, HO⟩
    case rest =>
      obtain ⟨ab, vc2, rfl, HO2⟩ := hcut
      obtain ⟨w4, rfl⟩ : ∃ w4, w4 = wc := ⟨_, rfl⟩
      have hb04 := HO2.out.1
      have hbw4 := hA.trans (hb04.mono hA.size)
      have HF : Hid (∀ W, Below w4.heap.size w4 W → (W.cell? ⟨w.heap.size, 0, none⟩ = some (.slice so n sc) ∧ W.cell? ⟨w.heap.size, 1, none⟩ = some (.int .i64 (gi : Int)) ∧ W.cell? ⟨w.heap.size, 2, none⟩ = some (.slice no n nc) ∧ W.cell? ⟨w.heap.size, 3, none⟩ = some (.slice bo n bc) ∧ W.cell? ⟨w.heap.size, 4, none⟩ = some (.int .i64 (mm : Int))) ∧ W.cell? ⟨w.heap.size + 1, 0, none⟩ = some (.slice ao sl ac) ∧ W.cell? ⟨w.heap.size + 1, 1, none⟩ = some (.slice (some ⟨lb, lof, none⟩) ll lc)) := fun W hb => HD.out W (hb04.trans (hb.mono hb04.size))
      have HAl : Hid (∀ W, Below w4.heap.size w4 W → ∀ i, i < sl + ll → W.cell? ⟨ab, i, none⟩ = some (.int .i64 ((st ++ lp).getD i 0 : Int))) := fun W hb i hi => (hb.cell (p := ⟨ab, i, none⟩) (World.block_lt_of_cell? _ _ (HO2.out.2 i hi))).trans (HO2.out.2 i hi)
      have HLq : Hid (∀ W, Below w4.heap.size w4 W → ∀ i, i < ll → W.cell? ⟨lb, lof + i, none⟩ = some (.int .i64 (lp.getD i 0 : Int)) ∧ lp.getD i 0 < n) := fun W hb => HLp.out W (hbw4.trans (hb.mono hbw4.size))
      have HRq : Hid (∀ W, Below w4.heap.size w4 W → Below w.heap.size w W) := fun W hb => hbw4.trans (hb.mono hbw4.size)
      obtain ⟨-, d0, d1⟩ := HF.out w4 (Below.refl _ _)
      have hl0 : ¬ (ll : Int) = 0 := by omega
      have hl0n : ¬ ll = 0 := by omega
      have hn1 : 0 < n := by have := (HLq.out w4 (Below.refl _ _) 0 hl1).2; omega
      obtain ⟨N, hN⟩ : ∃ N, sl + ll = N := ⟨_, rfl⟩
      have hN2 : N ≤ 2020000 := by omega
      have hN1 : 0 < N := by omega
      rw [hN] at HAl HTr ⊢
      clear HO1 HO2 hN HD HSn HSm HSt HLp HSe0
      have hl0b : ((ll : Int) == 0) = false := by simp; omega
      go_upto_block 4 with fail
      try simp only [hl0b]
      go_cut [8, 9, 10, 11] from 50 to 110 (fun _ _ _ _ wx => Hid (Below w4.heap.size w4 wx))
      case first =>
        go_wp2_with fail
        go_loopw [8] (fun iv wr => ∃ i : Nat, i ≤ N ∧ iv = .int .i64 (i : Int) ∧ Hid (Below w4.heap.size w4 wr)) (fun i _ => N - (intOf i).toNat)
        case atStart => exact ⟨0, Nat.zero_le _, rfl, Below.refl _ _⟩
        case round =>
          obtain ⟨i, hi, rfl, HB⟩ := hrel
          clear d0 d1
          obtain ⟨⟨c0, c1, c2, c3, c4⟩, d0, d1⟩ := HF.out wr HB.out
          by_cases hiN : i < N
          · have hiNi : (i : Int) < (N : Int) := by omega
            obtain ⟨hxn, hmem⟩ := HTr.out i hiN
            obtain ⟨x, hx⟩ : ∃ x, (st ++ lp).getD i 0 = x := ⟨_, rfl⟩
            have a0 := HAl.out wr HB.out i hiN
            rw [hx] at a0 hxn hmem
            have hin := fun W => in_any (x : Int) 0 ((n : Int) - 1) W
            rw [decide_eq_true (show (0 : Int) ≤ (x : Int) ∧ (x : Int) ≤ (n : Int) - 1 by omega)] at hin
            obtain ⟨rb, roff, ub, uoff, uc, hno, r0, u0⟩ := HRw.out w4 (HRq.out w4 (Below.refl _ _)) x hxn
            subst hno
            obtain ⟨m, hm⟩ : ∃ m, (nx x).length = m := ⟨_, rfl⟩
            have hm2 : m ≤ 1099511627776 := by rw [← hm]; exact HLe.out x hxn
            rw [hm] at r0 u0
            have HXr : Hid (∀ W, Below w4.heap.size w4 W → W.cell? ⟨ab, i, none⟩ = some (.int .i64 (x : Int)) ∧ W.cell? ⟨rb, roff + x, none⟩ = some (.slice ub m uc)) := fun W hb => ⟨by rw [← hx]; exact HAl.out W hb i hiN, (hb.cell (p := ⟨rb, roff + x, none⟩) (World.block_lt_of_cell? _ _ r0)).trans r0⟩
            have HUr : Hid (∀ q, q < m → ∃ b2, ub = some ⟨b2, uoff, none⟩ ∧ ∀ W, Below w4.heap.size w4 W → W.cell? ⟨b2, uoff + q, none⟩ = some (.int .i64 ((nx x).getD q 0 : Int))) := fun q hq => by
              obtain ⟨b2, h1, h2⟩ := u0 q hq
              exact ⟨b2, h1, fun W hb => (hb.cell (p := ⟨b2, uoff + q, none⟩) (World.block_lt_of_cell? _ _ h2)).trans h2⟩
            have HMm : Hid (∀ y, y ∈ nx x → LdK (nx x) y m) := fun y hy => by
              obtain ⟨q, hq, rfl⟩ := List.mem_iff_getElem.1 hy
              exact ⟨q, by rw [← hm]; exact hq, by rw [List.getD_eq_getElem?_getD, List.getElem?_eq_getElem hq]; rfl⟩
            have HMe : Hid ((if i + 1 < N then (st ++ lp).getD (i + 1) 0 else lp.getD 0 0) ∈ nx x) := hmem
            clear hx hm u0 r0 hmem
            go_wp2_with fail
            go_quiet ((go_at_call 33; exact Calls.quiet_of_same (hin _)))
            generalize hwd : World.drewN wr _ = wd
            have HBd : Hid (Below w4.heap.size w4 wd) := by
              show Below _ _ _
              rw [← hwd]
              exact HB.out.trans ((below_drewN (Below.refl _ _) _).mono HB.out.size)
            clear hwd c0 c1 c2 c3 c4 d0 d1 a0 hin
            obtain ⟨⟨c0, c1, c2, c3, c4⟩, d0, d1⟩ := HF.out wd HBd.out
            have l0 := (HLq.out wd HBd.out 0 hl1).1
            rw [Nat.add_zero] at l0
            obtain ⟨y0, hy0⟩ : ∃ y0, lp.getD 0 0 = y0 := ⟨_, rfl⟩
            rw [hy0] at l0
            obtain ⟨y, hy⟩ : ∃ y, (if i + 1 < N then (st ++ lp).getD (i + 1) 0 else lp.getD 0 0) = y := ⟨_, rfl⟩
            have HYq : Hid (y ∈ nx x) := by
              have h9 := HMe.out
              rw [hy] at h9
              exact h9
            have HYp : Hid (i + 1 < N → ∀ W, Below w4.heap.size w4 W → W.cell? ⟨ab, i + 1, none⟩ = some (.int .i64 (y : Int))) := fun h W hb => by
              have h9 := HAl.out W hb (i + 1) h
              rw [if_pos h] at hy
              rw [hy] at h9
              exact h9
            have HYn : Hid (¬ i + 1 < N → y0 = y) := fun h => by
              rw [if_neg h, hy0] at hy
              exact hy
            clear hy HMe hy0
            go_upto_if 74 with fail
            obtain ⟨bq, hbq⟩ : ∃ bq, decide ((i : Int) + 1 < (N : Int)) = bq := ⟨_, rfl⟩
            have hbc : (bq = true ∧ i + 1 < N) ∨ (bq = false ∧ ¬ i + 1 < N) := by
              by_cases h : i + 1 < N
              · exact .inl ⟨by rw [← hbq]; exact decide_eq_true (by omega), h⟩
              · exact .inr ⟨by rw [← hbq]; exact decide_eq_false (by omega), h⟩
            have HBc : Hid ((bq = true ∧ i + 1 < N) ∨ (bq = false ∧ ¬ i + 1 < N)) := hbc
            simp only [hbq]
            clear hbq hbc
            go_cut [9] from 75 to 79 (fun v wx => v = .int .i64 (y : Int) ∧ SmW wx wd)
            case first =>
              rcases HBc.out with ⟨rfl, hnx⟩ | ⟨rfl, hnx⟩
              · have hnxi : (i : Int) + 1 < (N : Int) := by omega
                have a1 := HYp.out hnx wd HBd.out
                clear HBc
                go_wp2_with fail
                go_meet
                exact ⟨rfl, rfl⟩
              · have e := HYn.out hnx
                subst e
                clear HBc
                go_wp2_with fail
                go_meet
                exact ⟨rfl, rfl⟩
            case rest =>
              obtain ⟨rfl, hwc⟩ := hcut
              have hwE : _ = _ := hwc
              subst hwE
              clear hwc l0 c0 c1 c2 c3 c4 d0 d1 HYp HYn
              clear HBc
              have HYm : Hid (LdK (nx x) y m) := HMm.out y HYq.out
              go_upto_region 22 with fail
              go_loopw [10, 11] (fun b kv wr => ∃ (ld : Bool) (k : Nat), k ≤ m ∧ b = .bool ld ∧ kv = .int .i64 (k : Int) ∧ Hid (Below w4.heap.size w4 wr ∧ (ld = true ↔ LdK (nx x) y k))) (fun _ i _ => m - (intOf i).toNat)
              case atStart => exact ⟨false, 0, Nat.zero_le _, rfl, rfl, HBd.out, ⟨(fun h => by cases h), fun ⟨q, hq, _⟩ => by omega⟩⟩
              case round =>
                obtain ⟨ld, k, hk, rfl, rfl, HR⟩ := hrel
                obtain ⟨⟨c0, c1, c2, c3, c4⟩, d0, d1⟩ := HF.out wr HR.out.1
                obtain ⟨a0, r0⟩ := HXr.out wr HR.out.1
                by_cases hkm : k < m
                · have hkmi : (k : Int) < (m : Int) := by omega
                  obtain ⟨b5, hub, HU5⟩ := HUr.out k hkm
                  subst hub
                  have u0 := HU5 wr HR.out.1
                  have HU6 : Hid (∀ W, Below w4.heap.size w4 W → W.cell? ⟨b5, uoff + k, none⟩ = some (.int .i64 ((nx x).getD k 0 : Int))) := HU5
                  clear HU5
                  have HL5 : Hid (∀ l2 : Bool, (l2 = true ↔ ld = true ∨ (nx x).getD k 0 = y) → (l2 = true ↔ LdK (nx x) y (k + 1))) := fun l2 h => by rw [LdK_succ, h, HR.out.2]
                  have HBr : Hid (Below w4.heap.size w4 wr) := HR.out.1
                  generalize (nx x).getD k 0 = t at *
                  clear HR
                  go_wp2_with fail
                  go_quiet (fail)
                  generalize hwe : World.drewN wr _ = we
                  have HBe : Hid (Below w4.heap.size w4 we) := by
                    show Below _ _ _
                    rw [← hwe]
                    exact HBr.out.trans ((below_drewN (Below.refl _ _) _).mono HBr.out.size)
                  clear hwe c0 c1 c2 c3 c4 d0 d1 a0 r0 u0
                  obtain ⟨⟨c0, c1, c2, c3, c4⟩, d0, d1⟩ := HF.out we HBe.out
                  obtain ⟨a0, r0⟩ := HXr.out we HBe.out
                  have u0 := HU6.out we HBe.out
                  go_upto_block 7 with fail
                  go_cut [10] from 93 to 108 (fun v wx => ∃ l2 : Bool, v = .bool l2 ∧ Hid (Below w4.heap.size w4 wx ∧ (l2 = true ↔ LdK (nx x) y (k + 1))))
                  case first =>
                    cases ld with
                    | true =>
                      have HLn : Hid (LdK (nx x) y (k + 1)) := (HL5.out true ⟨fun _ => .inl rfl, fun _ => rfl⟩).1 rfl
                      go_wp2_with fail
                      go_quiet (fail)
                      go_wp2_with fail
                      go_meet
                      exact ⟨true, by first | rfl | (simp; omega) | simp, HBe.out.trans ((below_drewN (Below.refl _ _) _).mono HBe.out.size), ⟨fun _ => HLn.out, fun _ => rfl⟩⟩
                    | false =>
                      by_cases hty : t = y
                      · have HLn : Hid (LdK (nx x) y (k + 1)) := (HL5.out true ⟨fun _ => .inr hty, fun _ => rfl⟩).1 rfl
                        rw [hty] at u0
                        clear hty
                        go_wp2_with fail
                        go_quiet (fail)
                        go_wp2_with fail
                        go_meet
                        exact ⟨true, by first | rfl | (simp; omega) | simp, HBe.out.trans ((below_drewN (Below.refl _ _) _).mono HBe.out.size), ⟨fun _ => HLn.out, fun _ => rfl⟩⟩
                      · have hty2 : ¬ (t : Int) = (y : Int) := by omega
                        have HLn : Hid (¬ LdK (nx x) y (k + 1)) := fun h => by have := (HL5.out false ⟨(fun h => by cases h), fun h => h.elim (fun h => by cases h) (fun h => absurd h hty)⟩).2 h; cases this
                        go_wp2_with fail
                        go_quiet (fail)
                        go_wp2_with fail
                        go_meet
                        exact ⟨false, by first | rfl | (simp; omega) | simp, HBe.out.trans ((below_drewN (Below.refl _ _) _).mono HBe.out.size), ⟨(fun h => by cases h), fun h => absurd h HLn.out⟩⟩
                  case rest =>
                    obtain ⟨l2, rfl, HE⟩ := hcut
                    go_wp2_with fail
                    go_roundw
                    case rel => exact ⟨l2, k + 1, by omega, rfl, by go_num, HE⟩
                    case measure => simp [intOf]; omega
                · obtain rfl : k = m := by omega
                  obtain rfl : ld = true := HR.out.2.2 HYm.out
                  have HBr : Hid (Below w4.heap.size w4 wr) := HR.out.1
                  clear HR
                  go_wp2_with fail
                  go_quiet (fail)
                  go_wp2_with fail
                  go_roundw
                  case rel => exact ⟨i + 1, by omega, by go_num, HBr.out.trans ((below_drewN (Below.refl _ _) _).mono HBr.out.size)⟩
                  case measure => simp [intOf]; omega
          · obtain rfl : i = N := by omega
            go_wp2_with fail
            go_meet
            exact HB
      case rest =>
        obtain ⟨w5, rfl⟩ : ∃ w5, w5 = wc := ⟨_, rfl⟩
        have hb45 : Below w4.heap.size w4 w5 := hcut.out
        obtain ⟨tb, tof, hbo, hset⟩ := HSe.out w4 (HRq.out w4 (Below.refl _ _)) hn1
        subst hbo
        have HSt : Hid (∀ W, Below w4.heap.size w4 W → ∀ k, k < n → W.cell? ⟨tb, tof + k, none⟩ = some (.int .i64 (sn k : Int)) ∧ sn k < 64) := fun W hb k hk => ⟨(hb.cell (p := ⟨tb, tof + k, none⟩) (World.block_lt_of_cell? _ _ (hset k hk).1)).trans (hset k hk).1, (hset k hk).2⟩
        clear hset hcut d0 d1
        go_upto_region 29 with fail
        go_loopw [12, 13] (fun pv sv wr => ∃ s pw : Nat, s ≤ mm ∧ pv = .int .i64 (pw : Int) ∧ sv = .int .i64 (s : Int) ∧ 0 < pw ∧ pw ≤ 64 ∧ Hid (pw = 2 ^ s ∧ Below w4.heap.size w4 wr)) (fun _ i _ => mm - (intOf i).toNat)
        case atStart => exact ⟨0, 1, Nat.zero_le _, rfl, rfl, by decide, by decide, rfl, hb45⟩
        case round =>
          obtain ⟨s, pw, hs, rfl, rfl, hpw0, hpw6, HR⟩ := hrel
          obtain ⟨⟨c0, c1, c2, c3, c4⟩, d0, d1⟩ := HF.out wr HR.out.2
          by_cases hsm : s < mm
          · have hsmi : (s : Int) < (mm : Int) := by omega
            have hpw3 : pw ≤ 32 := by
              have e1 := HR.out.1
              have h5 : s ≤ 5 := by omega
              rw [e1]
              exact Nat.le_trans (Nat.pow_le_pow_right (n := 2) (by decide) h5) (by decide)
            have HMt : Hid (MlK sn lp pw ll) := by
              show MlK _ _ _ _
              rw [HR.out.1]
              exact HBt.out s hsm
            have HPw : Hid (pw * 2 = 2 ^ (s + 1)) := by
              show _ = _
              rw [HR.out.1, Nat.pow_succ]
            have HBr : Hid (Below w4.heap.size w4 wr) := HR.out.2
            have hpn : ¬ (pw : Int) = 0 := by omega
            have hpn2 : ((pw : Int) == 0) = false := by simp; omega
            have hpn3 : ¬ pw = 0 := by omega
            clear HR
            generalize wr = wo at *
            go_upto_region 33 with fail
            clear c0 c1 c2 c3 c4 d0 d1
            go_loopw [14, 15] (fun b kv wr => ∃ (mt : Bool) (k : Nat), k ≤ ll ∧ b = .bool mt ∧ kv = .int .i64 (k : Int) ∧ Hid (Below w4.heap.size w4 wr ∧ (mt = true ↔ MlK sn lp pw k))) (fun _ i _ => ll - (intOf i).toNat)
            case atStart => exact ⟨false, 0, Nat.zero_le _, rfl, rfl, HBr.out, ⟨(fun h => by cases h), fun ⟨q, hq, _⟩ => by omega⟩⟩
            case round =>
              obtain ⟨mt, k, hk, rfl, rfl, HM⟩ := hrel
              obtain ⟨⟨c0, c1, c2, c3, c4⟩, d0, d1⟩ := HF.out wr HM.out.1
              by_cases hkl : k < ll
              · have hkli : (k : Int) < (ll : Int) := by omega
                obtain ⟨l0, l1⟩ := HLq.out wr HM.out.1 k hkl
                obtain ⟨x, hx⟩ : ∃ x, lp.getD k 0 = x := ⟨_, rfl⟩
                rw [hx] at l0 l1
                obtain ⟨t0, t1⟩ := HSt.out wr HM.out.1 x l1
                obtain ⟨sk, hsk⟩ : ∃ sk, sn x = sk := ⟨_, rfl⟩
                rw [hsk] at t0 t1
                have HSc : Hid (∀ m2 : Bool, (m2 = true ↔ mt = true ∨ sk / pw % 2 = 1) → (m2 = true ↔ MlK sn lp pw (k + 1))) := fun m2 h => by rw [MlK_succ, h, HM.out.2, hx, hsk]
                have HBq : Hid (Below w4.heap.size w4 wr) := HM.out.1
                have hq0 : (0 : Int) ≤ (sk : Int) := by omega
                have htd : (sk : Int).tdiv (pw : Int) = ((sk / pw : Nat) : Int) := by rw [Int.tdiv_eq_ediv_of_nonneg hq0]; simp
                obtain ⟨qv, hqv⟩ : ∃ qv, sk / pw = qv := ⟨_, rfl⟩
                rw [hqv] at htd HSc
                have hqs : qv ≤ sk := by rw [← hqv]; exact Nat.div_le_self _ _
                have htm : (qv : Int).tmod 2 = ((qv % 2 : Nat) : Int) := by rw [Int.tmod_eq_emod_of_nonneg (by omega)]; simp
                obtain ⟨rv, hrv⟩ : ∃ rv, qv % 2 = rv := ⟨_, rfl⟩
                rw [hrv] at htm HSc
                have hrv2 : rv < 2 := by omega
                clear hx hsk hqv hq0 HM hrv
                go_upto_block 11 with fail
                go_cut [14] from 124 to 139 (fun v wx => ∃ m2 : Bool, v = .bool m2 ∧ Hid (Below w4.heap.size w4 wx ∧ (m2 = true ↔ MlK sn lp pw (k + 1))))
                case first =>
                  cases mt with
                  | true =>
                    have HLn : Hid (MlK sn lp pw (k + 1)) := (HSc.out true ⟨fun _ => .inl rfl, fun _ => rfl⟩).1 rfl
                    go_wp2_with fail
                    go_quiet (fail)
                    go_wp2_with fail
                    go_meet
                    exact ⟨true, by first | rfl | simp [htd, htm] | simp, HBq.out.trans ((below_drewN (Below.refl _ _) _).mono HBq.out.size), ⟨fun _ => HLn.out, fun _ => rfl⟩⟩
                  | false =>
                    by_cases hr1 : rv = 1
                    · subst hr1
                      have HLn : Hid (MlK sn lp pw (k + 1)) := (HSc.out true ⟨fun _ => .inr rfl, fun _ => rfl⟩).1 rfl
                      go_wp2_with fail
                      go_quiet (fail)
                      go_wp2_with fail
                      go_meet
                      exact ⟨true, by first | rfl | simp [htd, htm] | simp, HBq.out.trans ((below_drewN (Below.refl _ _) _).mono HBq.out.size), ⟨fun _ => HLn.out, fun _ => rfl⟩⟩
                    · obtain rfl : rv = 0 := by omega
                      have HLn : Hid (¬ MlK sn lp pw (k + 1)) := fun h => by have := (HSc.out false ⟨(fun h => by cases h), fun h => h.elim (fun h => by cases h) (fun h => by cases h)⟩).2 h; cases this
                      go_wp2_with fail
                      go_quiet (fail)
                      go_wp2_with fail
                      go_meet
                      exact ⟨false, by first | rfl | simp [htd, htm] | simp, HBq.out.trans ((below_drewN (Below.refl _ _) _).mono HBq.out.size), ⟨(fun h => by cases h), fun h => absurd h HLn.out⟩⟩
                case rest =>
                  obtain ⟨m2, rfl, HE⟩ := hcut
                  go_wp2_with fail
                  go_roundw
                  case rel => exact ⟨m2, k + 1, by omega, rfl, by go_num, HE⟩
                  case measure => simp [intOf]; omega
              · obtain rfl : k = ll := by omega
                obtain rfl : mt = true := HM.out.2.2 HMt.out
                have HBq : Hid (Below w4.heap.size w4 wr) := HM.out.1
                go_wp2_with fail
                go_roundw
                case rel => exact ⟨s + 1, pw * 2, by omega, by go_num, by go_num, by omega, by omega, HPw.out, HBq.out⟩
                case measure => simp [intOf]; omega
          · obtain rfl : s = mm := by omega
            have a0 := HAl.out wr HR.out.2 0 hN1
            have hxg := HHd.out
            have hbF := HRq.out wr HR.out.2
            generalize (st ++ lp).getD 0 0 = x0 at *
            have hxgi : (x0 : Int) < (gi : Int) := by omega
            go_wp2_with fail
            go_quiet (fail)
            go_wp2_with fail
            go_ret
            exact ⟨by first | rfl | simp [hxgi], hbF.trans ((below_drewN (Below.refl _ _) _).mono hbF.size)⟩
end Go.Proofs.Ytknneajaklcjdaa
