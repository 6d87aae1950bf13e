/-
  The contract of (*walk).tell.
-/
import Derived.Test.YtknneajaklcjdaaTarjanW
namespace Go.Proofs.Ytknneajaklcjdaa
open Go.ChangeShapes Go.WideShapes Go.ChangeAt Go.RowKit Go.Deep
open Terms

theorem owns_cells {w : World} {base : Nat} {e : TypeId} {g c : Nat} {l : List Nat} (h : w.ownsRow base e 1 (.slice (some ⟨g, 0, none⟩) l.length c) l.length (nvals l)) : l.length ≤ c ∧ base ≤ g ∧ ∀ i, i < l.length → w.cell? ⟨g, i, none⟩ = some (.int .i64 (l.getD i 0 : Int)) := by
  rcases h.2 with ⟨h1, _⟩ | ⟨g', cap, cur, h1, h2, h3, h4, h5, h6, h7⟩
  · injection h1 with e1; cases e1
  · injection h1 with e1 e2 e3
    injection e1 with e1
    injection e1 with e1
    subst e1 e3
    refine ⟨h4, h2, fun i hi => ?_⟩
    have h8 : cur.toList[i]? = (nvals l)[i]? := by
      rw [← h7, List.getElem?_take, if_pos (by omega)]
    have h9 : (nvals l)[i]? = some (.int .i64 (l.getD i 0 : Int)) := by
      rw [nvals, List.getElem?_map, List.getElem?_eq_getElem hi, List.getD_eq_getElem?_getD, List.getElem?_eq_getElem hi]
      rfl
    rw [h9] at h8
    have h10 : cur[i]? = some (.int .i64 (l.getD i 0 : Int)) := by rw [← Array.getElem?_toList]; exact h8
    simp [World.cell?, h3, h10]
theorem tellPt_nil (pt : Nat → Int) (m : Nat) : tellPt pt [] m = pt := by funext x; simp [tellPt]
theorem tellPt_succ (pt : Nat → Int) (l : List Nat) (m i : Nat) (hi : i < l.length) : updI (tellPt pt (l.take i) m) (l.getD i 0) (m : Int) = tellPt pt (l.take (i + 1)) m := by
  funext x
  have hmem : x ∈ l.take (i + 1) ↔ x ∈ l.take i ∨ x = l.getD i 0 := by
    rw [List.take_succ_eq_append_getElem hi, List.getD_eq_getElem?_getD, List.getElem?_eq_getElem hi, List.mem_append, List.mem_singleton]
    rfl
  unfold updI tellPt
  by_cases hx : x = l.getD i 0
  · rw [if_pos hx, if_pos (hmem.2 (.inr hx))]
  · rw [if_neg hx]
    by_cases hx2 : x ∈ l.take i
    · rw [if_pos hx2, if_pos (hmem.2 (.inl hx2))]
    · rw [if_neg hx2, if_neg (fun h => (hmem.1 h).elim hx2 hx)]
theorem minL_succ (p : Nat) (l : List Nat) (i : Nat) (hi : i < l.length) : minL p (l.take (i + 1)) = min (minL p (l.take i)) (l.getD i 0) := by
  unfold minL
  rw [List.take_succ_eq_append_getElem hi, List.foldl_append, List.getD_eq_getElem?_getD, List.getElem?_eq_getElem hi]
  rfl

set_option maxHeartbeats 3200000 in
set_option maxRecDepth 20000 in
/-- THE CONTRACT OF tell. -/
theorem tjtell_any (w0 w : World) (A : TA) (nv : Value) (n : Nat) (dv ov : Value) (dl ob r : List Nat) (wh lo go : Nat → Nat) (pt : Nat → Int) (met p : Nat) (hA : TAOk A) (hl : ∀ x ∈ p :: r, x < n) (hr : ¬ p ∈ r) (hol : (ob ++ p :: r).length ≤ 20000) (h : TjW w0 w A nv n dv ov dl (ob ++ p :: r) wh lo go pt met) :
    Calls Try.prog 44 #[.pointer (some ⟨A.b, 0, none⟩), .int .i64 (p : Int)] w fun e w' => e = .returned (.tuple #[]) ∧ Hid (∃ ov', TjW w0 w' A nv n dv ov' dl ob wh lo go (tellPt pt (p :: r) (minL p (p :: r))) met) := by
  have hf := h.oo.form (by simp; omega)
  obtain ⟨g, c, rfl, hgt, hgl⟩ := hf
  obtain ⟨hNc, hg, hcell⟩ := owns_cells h.oo
  have hLp : (ob ++ p :: r).getD ob.length 0 = p := by simp [List.getD_eq_getElem?_getD]
  have hLr : ∀ i, ob.length < i → i < (ob ++ p :: r).length → (ob ++ p :: r).getD i 0 ≠ p := fun i h1 h2 e => by
    obtain ⟨j, rfl⟩ : ∃ j, i = ob.length + (j + 1) := ⟨i - ob.length - 1, by omega⟩
    rw [List.getD_eq_getElem?_getD, List.getElem?_append_right (by omega)] at e
    have e2 : ob.length + (j + 1) - ob.length = j + 1 := by omega
    have hj : j < r.length := by simp at h2; omega
    rw [e2, List.getElem?_cons_succ, List.getElem?_eq_getElem hj] at e
    exact hr (e ▸ List.getElem_mem hj)
  have hLj : ∀ j, j < (p :: r).length → (ob ++ p :: r).getD (ob.length + j) 0 = (p :: r).getD j 0 := fun j hj => by
    rw [List.getD_eq_getElem?_getD, List.getElem?_append_right (by omega), Nat.add_sub_cancel_left, List.getD_eq_getElem?_getD]
  obtain ⟨N, hN⟩ : ∃ N, N = (ob ++ p :: r).length := ⟨_, rfl⟩
  obtain ⟨K, hK⟩ : ∃ K, K = ob.length := ⟨_, rfl⟩
  have hNK : N = K + (p :: r).length := by rw [hN, hK, List.length_append]
  have hm1 : (p :: r).length = r.length + 1 := rfl
  obtain ⟨L, hL⟩ : ∃ L, L = p :: r := ⟨_, rfl⟩
  have HA : Hid (TAOk A) := hA
  have H0 : Hid (TjW w0 w A nv n dv (.slice (some ⟨g, 0, none⟩) N c) dl (ob ++ p :: r) wh lo go pt met) := by rw [hN]; exact h
  have HC : Hid (∀ i, i < N → w.cell? ⟨g, i, none⟩ = some (.int .i64 ((ob ++ p :: r).getD i 0 : Int))) := by rw [hN]; exact hcell
  have HLr : Hid (∀ i, K < i → i < N → (ob ++ p :: r).getD i 0 ≠ p) := by rw [hN, hK]; exact hLr
  have HLp : Hid ((ob ++ p :: r).getD K 0 = p) := by rw [hK]; exact hLp
  have HLj : Hid (∀ j, j < L.length → (ob ++ p :: r).getD (K + j) 0 = L.getD j 0) := by rw [hK, hL]; exact hLj
  have HLl : Hid (∀ j, j < L.length → L.getD j 0 < n) := fun j hj => hl _ (by rw [← hL, List.getD_eq_getElem?_getD, List.getElem?_eq_getElem hj]; exact List.getElem_mem _)
  have HOT : Hid (w.ownsRow A.t 3 1 (.slice (some ⟨g, 0, none⟩) K c) ob.length (nvals ob)) := by
    have := owns_take h.oo (j := ob.length) (by simp)
    have e : (nvals (ob ++ p :: r)).take ob.length = nvals ob := by simp [nvals]
    rw [e] at this
    rw [hK]; exact this
  obtain ⟨M, hM⟩ : ∃ M, M = L.length := ⟨_, rfl⟩
  have HM : Hid (M = L.length) := hM
  have hNM : N = K + M := by rw [hM, hL]; exact hNK
  have hM1 : 1 ≤ M := by rw [hM, hL]; simp
  have hpn : p < n := hl p (by simp)
  have HLe : Hid (L = p :: r) := hL
  have k6 := H0.out.on
  have kf6 := H0.out.fz 6
  have hNc' : N ≤ c := by rw [hN]; exact hNc
  have hN2 : N ≤ 20000 := by rw [hN]; exact hol
  clear h hcell hLr hLp hLj hL hl hr hol hK hNK hN hm1 hM hNc
  generalize hob : ob ++ p :: r = ol at *
  have HOb : Hid (ob ++ p :: r = ol) := hob
  clear hob
  go_enter Try.func44, Try.ntmps44
  go_wp2_with fail
  go_loopw [4] (fun i wr => ∃ k : Nat, K ≤ k ∧ k < N ∧ i = .int .i64 k ∧ wr = w) (fun i _ => (intOf i).toNat)
  case atStart => exact ⟨N - 1, by omega, by omega, by congr 1; omega, rfl⟩
  case round =>
    obtain ⟨k, hk1, hk2, rfl, rfl⟩ := hrel
    have hck := HC.out k hk2
    by_cases hkK : k = K
    · subst hkK
      rw [HLp.out] at hck
      have H1 : Hid (TjW w0 (wr.setCell ⟨A.b, 6, none⟩ (.slice (some ⟨g, 0, none⟩) k c)) A nv n dv (.slice (some ⟨g, 0, none⟩) k c) dl ob wh lo go pt met) := H0.out.setOpen hA HOT.out (fun q h1 h2 => H0.out.ap q h1 (by rw [← h2]; rfl))
      have hgb : g ≠ A.b := by have := hA.tb; omega
      have hgp : g ≠ A.bp := by have := hA.tp; omega
      have HC1 : Hid (∀ j, j < M → (wr.setCell ⟨A.b, 6, none⟩ (.slice (some ⟨g, 0, none⟩) k c)).cell? ⟨g, k + j, none⟩ = some (.int .i64 (L.getD j 0 : Int))) := fun j hj => by
        rw [World.cell?_setCell_far _ _ _ _ (fun e => hgb e.symm), HC.out (k + j) (by omega), HLj.out j (by rw [← HM.out]; exact hj)]
      have hkc : k < c := by omega
      have hkc2 : ¬ c = k := by omega
      have hkc3 : ¬ c - k = 0 := by omega
      go_wp2_with fail
      generalize wr.setCell ⟨A.b, 6, none⟩ (.slice (some ⟨g, 0, none⟩) k c) = w1 at H1 HC1 ⊢
      clear HC H0 k6 kf6 hck HLr HLp HLj HOT hgl
      go_loopw [6, 46] (fun v i wr => ∃ q : Nat, q ≤ M ∧ i = .int .i64 q ∧ v = .int .i64 (minL p (L.take q) : Int) ∧ wr = w1) (fun _ i _ => M - (intOf i).toNat)
      case atStart => exact ⟨0, Nat.zero_le _, rfl, rfl, rfl⟩
      case round =>
        obtain ⟨q, hq, rfl, rfl, hwr⟩ := hrel
        subst hwr
        by_cases hqM : q < M
        · have hcq := HC1.out q hqM
          have HMS : Hid (minL p (L.take (q + 1)) = min (minL p (L.take q)) (L.getD q 0)) := minL_succ p L q (by rw [← HM.out]; exact hqM)
          generalize minL p (L.take q) = m0 at *
          generalize L.getD q 0 = x at *
          rcases Nat.le_total m0 x with hmx | hmx
          · have h1 : (m0 : Int) ≤ (x : Int) := by omega
            rw [Nat.min_eq_left hmx] at HMS
            go_wp2_with fail
            go_roundw
            case rel => exact ⟨q + 1, hqM, by go_num, by rw [HMS.out], trivial⟩
            case measure => simp [intOf]; omega
          · rw [Nat.min_eq_right hmx] at HMS
            by_cases hmx2 : m0 = x
            · subst hmx2
              go_wp2_with fail
              go_roundw
              case rel => exact ⟨q + 1, hqM, by go_num, by rw [HMS.out], trivial⟩
              case measure => simp [intOf]; omega
            · have h1 : ¬ (m0 : Int) ≤ (x : Int) := by omega
              have h2 : (x : Int) < (m0 : Int) := by omega
              go_wp2_with fail
              go_roundw
              case rel => exact ⟨q + 1, hqM, by go_num, by rw [HMS.out], trivial⟩
              case measure => simp [intOf]; omega
        · obtain rfl : q = M := by omega
          have HE : Hid (L.take q = L) := by show _ = _; rw [HM.out, List.take_length]
          rw [HE.out]
          obtain ⟨m, hm⟩ : ∃ m, m = minL p L := ⟨_, rfl⟩
          have HMm : Hid (m = minL p L) := hm
          rw [← hm]
          clear hm
          have H2 : Hid (TjW w0 wr A nv n dv (.slice (some ⟨g, 0, none⟩) k c) dl ob wh lo go (tellPt pt (L.take 0) m) met) := by rw [List.take_zero, tellPt_nil]; exact H1.out
          go_wp2_with fail
          generalize wr = w1 at *
          go_loopw [56] (fun i wr => ∃ j : Nat, j ≤ q ∧ i = .int .i64 j ∧ Hid (TjW w0 wr A nv n dv (.slice (some ⟨g, 0, none⟩) k c) dl ob wh lo go (tellPt pt (L.take j) m) met) ∧ Hid (∀ j, j < q → wr.cell? ⟨g, k + j, none⟩ = some (.int .i64 (L.getD j 0 : Int)))) (fun i _ => q - (intOf i).toNat)
          case atStart => exact ⟨0, Nat.zero_le _, rfl, H2, HC1⟩
          case round =>
            obtain ⟨j, hj, rfl, HT, HCr⟩ := hrel
            by_cases hjq : j < q
            · have hcj := HCr.out j hjq
              have hx := HLl.out j (by rw [← HM.out]; exact hjq)
              have k11 := HT.out.cp
              have r1 := HT.out.rp.cell hx
              have r2 := HT.out.rp.frozen (L.getD j 0)
              have HT2 : Hid (TjW w0 (wr.setCell ⟨A.bp, L.getD j 0, none⟩ (.int .i64 (m : Int))) A nv n dv (.slice (some ⟨g, 0, none⟩) k c) dl ob wh lo go (tellPt pt (L.take (j + 1)) m) met) := by
                rw [← tellPt_succ pt L m j (by rw [← HM.out]; exact hjq)]
                exact HT.out.setP hA (L.getD j 0) (m : Int)
              have HC2 : Hid (∀ i, i < q → (wr.setCell ⟨A.bp, L.getD j 0, none⟩ (.int .i64 (m : Int))).cell? ⟨g, k + i, none⟩ = some (.int .i64 (L.getD i 0 : Int))) := fun i hi => by
                rw [World.cell?_setCell_far _ _ _ _ (fun e => hgp e.symm)]; exact HCr.out i hi
              generalize intRow (tellPt pt (L.take j) m) (L.getD j 0) = old at *
              generalize L.getD j 0 = x at *
              go_wp2_with fail
              go_roundw
              case rel => exact ⟨j + 1, hjq, by go_num, HT2, HC2⟩
              case measure => simp [intOf]; omega
            · obtain rfl : j = q := by omega
              have HF : Hid (TjW w0 wr A nv n dv (.slice (some ⟨g, 0, none⟩) k c) dl ob wh lo go (tellPt pt (p :: r) (minL p (p :: r))) met) := by
                have := HT.out
                rw [HE.out, HMm.out, HLe.out] at this
                exact this
              go_wp2_with fail
              go_end0
              exact ⟨rfl, _, HF.out⟩
    · have hne : ol.getD k 0 ≠ p := HLr.out k (by omega) hk2
      generalize ol.getD k 0 = x at *
      have hne2 : ¬ (x : Int) = (p : Int) := by omega
      go_wp2_with fail
      go_roundw
      case rel => exact ⟨k - 1, by omega, by omega, by congr 1; omega, trivial⟩
      case measure => simp [intOf]; omega
end Go.Proofs.Ytknneajaklcjdaa
