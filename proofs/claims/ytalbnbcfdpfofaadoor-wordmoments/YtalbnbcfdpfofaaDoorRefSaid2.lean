/-
  The contract of the document's own said, by the tree.
-/
import Derived.Test.YtalbnbcfdpfofaaDoorRefSaid
import Derived.Test.YtalbnbcfdpfofaaDoorLogicT
namespace Go.Proofs.YtalbnbcfdpfofaaDoor
open Go.ChangeShapes Go.WideShapes Go.ChangeAt Go.RowKit Go.Deep
open Terms

set_option maxHeartbeats 3200000 in
set_option maxRecDepth 20000 in
/-- THE CONTRACT OF said. -/
theorem said_any (b off n cap RB p : Nat) (so lo : Option Addr) (sn sc ln lc i m : Nat) (l : List (Int × Int)) (ss ll : List (List Bool)) (t : Tm) (props : Int) (w : World) (hw : t.Wf) (hl : t.ops = l) (hln : l.length = n) (hn : n ≤ 60) (hz : endsCode (l.map Prod.fst) = 0) (hp : p < n) (hpr : ∀ q, q < n → lopErr props (l.getD q (0, 0)) = 0) (hls : ∀ j, j < (ss ++ ll).length → (((ss ++ ll).getD j []).length : Int) = props)
    (hsn : sn = ss.length) (hlnn : ln = ll.length) (h12 : sn ≤ 12) (hl1 : 1 ≤ ln) (hl12 : ln ≤ 12) (hm : m = sn + ln) (him : i < m) (hS : LettersV w (.slice so sn sc) ss) (hL : LettersV w (.slice lo ln lc) ll)
    (hI : SaIn w b off n RB m p l (fun q => (t.sub q).hb (sig (ss ++ ll) sn))) :
    Calls Tryd.prog 29 #[.slice (some ⟨b, off, none⟩) n cap, .agg #[.slice so sn sc, .slice lo ln lc], .slice (some ⟨RB, 0, none⟩) n n, .int .i64 (p : Int), .int .i64 (i : Int)] w fun e w' => e = .returned (.bool ((t.sub p).hb (sig (ss ++ ll) sn) i)) ∧ Below w.heap.size w w' := by
  have hsz : t.size = n := by rw [← t.ops_length, hl, hln]
  have hpt : p < t.size := by omega
  have hop := t.op_at hpt (0, 0)
  rw [hl] at hop
  obtain ⟨c0, c1⟩ := hI.ops p (by omega)
  have he := hpr p hp
  rw [hop] at c0 c1 he
  simp only at c0 c1
  have hsw := Tm.sub_wf hw p
  have hki := fun i (hi : i < (t.sub p).kids.length) => Tm.kid_in hw hpt hi
  have hlen : (ss ++ ll).length = m := by rw [List.length_append]; omega
  have hss : sn < (ss ++ ll).length := by omega
  have hper := sig_per hss
  rw [hlen] at hper
  have hmo : ∀ (x : Tm) j, x.hb (sig (ss ++ ll) sn) (moAt sn m j) = x.hb (sig (ss ++ ll) sn) j := fun x j => by have := hb_mo hss x j; rwa [hlen] at this
  have hi24 : i < 24 := by omega
  have hsec : sec l p = endAt (t.ops.map Prod.fst) (p + 1) := by unfold sec; rw [hl]
  have hscan : ∀ {u v : Nat → Bool} {d : Bool}, (∀ j, sn ≤ j → u (j + (m - sn)) = u j) → (∀ j, sn ≤ j → v (j + (m - sn)) = v j) → stp u v d (m + 1) i = untB u v d i := fun hu hv => scan_is (by omega) hu hv i
  cases hx : t.sub p with
  | leaf k v =>
    rw [hx] at c0 c1 he hsw
    simp only [Tm.kind, Tm.val] at c0 c1 he
    have hk : k = 13 ∨ k = 11 ∨ k = 12 := by
      obtain ⟨h1, h2⟩ := hsw
      simp only [okK, decide_eq_true_eq] at h1
      simp only [lopErr] at he
      simp only [pn] at h2
      split at he
      · omega
      · split at h2
        · omega
        · split at h2 <;> omega
    rcases hk with rfl | rfl | rfl
    · have hv : 0 ≤ v ∧ v < props := by
        by_cases hh : v < 0 ∨ props - 1 < v
        · exfalso; simp [lopErr, hh] at he
        · omega
      obtain ⟨uo, uc, hbv, hla⟩ := letterAt_ex so lo sn sc ln lc ss ll i w hsn hlnn h12 hl1 hl12 (by omega) hS hL
      have hmi : moAt sn (sn + ln) i = i := moAt_low (by omega)
      have hsg : sig (ss ++ ll) sn i v.toNat = ((ss ++ ll).getD i []).getD v.toNat false := by unfold sig; rw [hlen, moAt_low him]
      rw [hmi] at hbv hla
      have hle := hls i (by omega)
      rw [Tm.hb_prop, hsg]
      generalize (ss ++ ll).getD i [] = x at *
      have hvx : v.toNat < x.length := by omega
      obtain ⟨ao, ac, e1, e2⟩ := hbv
      obtain ⟨rfl, rfl⟩ : uo = ao ∧ uc = ac := by injection e1 with e1 _ e3; exact ⟨e1, e3⟩
      obtain ⟨ub, uof, rfl, hub, hua⟩ := e2 (by rintro rfl; simp at hvx)
      exact said_13 b off n cap RB p so lo sn sc ln lc v i w hp h12 hl12 hi24 c0 hI.hb c1 ⟨ub, uof, none⟩ x.length uc (x.getD v.toNat false) hv.1 (by omega) hub (fun w1 hb1 => (hb1.cell (p := ⟨ub, uof + v.toNat, none⟩) hub).trans (hua v.toNat hvx)) rfl hla
    · rw [Tm.hb_yes]
      exact said_11 b off n cap RB p so lo sn sc ln lc i w hp h12 hl12 hi24 c0 hI.hb
    · rw [Tm.hb_no _ _ _ (by decide) (by decide)]
      exact said_12 b off n cap RB p so lo sn sc ln lc i w hp h12 hl12 hi24 c0 hI.hb
  | un k v a =>
    rw [hx] at c0 c1 he hsw hki
    simp only [Tm.kind, Tm.val] at c0 c1 he
    obtain ⟨k1, k2, _⟩ := hki 0 (by simp [Tm.kids])
    rw [Tm.koff_zero] at k1 k2
    have hp1 : p + 1 < n := by omega
    have ha : t.sub (p + 1) = a := k2
    have hk : k = 10 ∨ k = 14 ∨ k = 17 ∨ k = 18 := by
      obtain ⟨h1, h2, _⟩ := hsw
      simp only [pn] at h2
      split at h2
      · omega
      · split at h2 <;> omega
    obtain ⟨rb, ro, rc, r0, hrb, r1⟩ := hI.rows (p + 1) (by omega) hp1
    simp only [ha] at r1
    rcases hk with rfl | rfl | rfl | rfl
    · rw [Tm.hb_not]
      exact said_10 b off n cap RB p so lo sn sc ln lc i w h12 hl12 hi24 c0 hI.hb m rb ro rc _ him hp1 hn r0 (r1 i him) hI.hR hrb
    · rw [Tm.hb_next, ← hmo a (i + 1)]
      exact said_14 b off n cap RB p so lo sn sc ln lc i w h12 hl12 hi24 c0 hI.hb m rb ro rc _ hm hl1 him hp1 hn r0 r1 hI.hR hrb
    · rw [Tm.hb_fin, ← hscan (fun j hj => Tm.hb_per hper a hj) (fun _ _ => rfl)]
      exact said_17 b off n cap RB p so lo sn sc ln lc i w h12 hl12 hi24 c0 hI.hb m rb ro rc _ hm hl1 him hp1 hn r0 r1 (hmo a) hI.hR hrb
    · rw [Tm.hb_glob, ← hscan (fun _ _ => rfl) (fun j hj => Tm.hb_per hper a hj)]
      exact said_18 b off n cap RB p so lo sn sc ln lc i w h12 hl12 hi24 c0 hI.hb m rb ro rc _ hm hl1 him hp1 hn r0 r1 (hmo a) hI.hR hrb
  | bi k v a b' =>
    have hop2 : pn (l.getD p (0, 0)).1 = 2 := by rw [hop, hx]; rw [hx] at hsw; exact hsw.2.1
    rw [hx] at c0 c1 he hsw hki
    simp only [Tm.kind, Tm.val] at c0 c1 he
    obtain ⟨k1, k2, k3, k4, k5, k6⟩ := hki 0 (by simp [Tm.kids])
    obtain ⟨j1, j2, _⟩ := hki 1 (by simp [Tm.kids])
    rw [Tm.koff_zero] at k1 k2 k3
    have hp1 : p + 1 < n := by omega
    have ha : t.sub (p + 1) = a := k2
    have hse : sec l p = p + (Tm.bi k v a b').koff 1 := by rw [hsec]; exact k3
    have hs1 : p < sec l p := by rw [hse, Tm.koff]; omega
    have hs2 : sec l p < n := by rw [hse]; omega
    have hb' : t.sub (sec l p) = b' := by rw [hse]; exact j2
    have hk : k = 8 ∨ k = 9 ∨ k = 15 ∨ k = 16 := by
      obtain ⟨h1, h2, _⟩ := hsw
      simp only [lopErr] at he
      simp only [pn] at h2
      split at he
      · omega
      · split at h2
        · omega
        · split at h2
          · omega
          · omega
    obtain ⟨rb, ro, rc, r0, hrb, r1⟩ := hI.rows (p + 1) (by omega) hp1
    obtain ⟨rb2, ro2, rc2, r2, hrb2, r3⟩ := hI.rows (sec l p) hs1 hs2
    simp only [ha] at r1
    simp only [hb'] at r3
    have hsc : ∀ w1, Below w.heap.size w w1 → Calls Tryd.prog 53 #[.slice (some ⟨b, off, none⟩) n cap, .int .i64 (p : Int)] w1 fun e w2 => e = .returned (.int .i64 (sec l p : Int)) ∧ w2 = w1 := fun w1 hb1 => by
      have := rsec_any b off cap p l w1 (by omega) hz (by omega) hop2 (hI.ops.below hb1 hI.hb)
      rwa [hln] at this
    rcases hk with rfl | rfl | rfl | rfl
    · rw [Tm.hb_and]
      exact said_8 b off n cap RB p so lo sn sc ln lc i w h12 hl12 hi24 c0 hI.hb m rb ro rc rb2 ro2 rc2 (sec l p) _ _ hm hl1 him hp1 hs2 hn r0 r1 r2 r3 hI.hR hrb hrb2 hsc
    · rw [Tm.hb_or]
      exact said_9 b off n cap RB p so lo sn sc ln lc i w h12 hl12 hi24 c0 hI.hb m rb ro rc rb2 ro2 rc2 (sec l p) _ _ hm hl1 him hp1 hs2 hn r0 r1 r2 r3 hI.hR hrb hrb2 hsc
    · rw [Tm.hb_until, ← hscan (fun j hj => Tm.hb_per hper b' hj) (fun j hj => Tm.hb_per hper a hj)]
      exact said_15 b off n cap RB p so lo sn sc ln lc i w h12 hl12 hi24 c0 hI.hb m rb ro rc rb2 ro2 rc2 (sec l p) _ _ hm hl1 him hp1 hs2 hn r0 r1 r2 r3 hI.hR hrb hrb2 hsc (hmo a) (hmo b')
    · rw [Tm.hb_rel, ← hscan (fun j hj => by simp only [Tm.hb_per hper a hj, Tm.hb_per hper b' hj]) (fun j hj => Tm.hb_per hper b' hj)]
      exact said_16 b off n cap RB p so lo sn sc ln lc i w h12 hl12 hi24 c0 hI.hb m rb ro rc rb2 ro2 rc2 (sec l p) _ _ hm hl1 him hp1 hs2 hn r0 r1 r2 r3 hI.hR hrb hrb2 hsc (hmo a) (hmo b')
end Go.Proofs.YtalbnbcfdpfofaaDoor
