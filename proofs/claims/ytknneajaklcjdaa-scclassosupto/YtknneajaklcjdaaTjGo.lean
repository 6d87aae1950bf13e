/-
  The contract of (*walk).goOn.
-/
import Derived.Test.YtknneajaklcjdaaTjLeave
namespace Go.Proofs.Ytknneajaklcjdaa
open Go.ChangeShapes Go.WideShapes Go.ChangeAt Go.RowKit Go.Deep
open Terms

/-- the rows of what lies next, in memory that nobody writes. -/
def NextRows (w : World) (no : Option Addr) (n : Nat) (nx : Nat → List Nat) : Prop := ∀ p, p < n → ∃ b off, no = some ⟨b, off, none⟩ ∧ b < w.heap.size ∧ ∃ uo uc, w.cell? ⟨b, off + p, none⟩ = some (.slice uo (nx p).length uc) ∧ NatsV w (.slice uo (nx p).length uc) (nx p)
theorem NextRows.below {w w' : World} {B : Nat} {no : Option Addr} {n : Nat} {nx : Nat → List Nat} (h : NextRows w no n nx) (hb : Below B w w') (hB : w.heap.size ≤ B) : NextRows w' no n nx := fun p hp => by
  obtain ⟨b, off, h1, h2, uo, uc, h3, h4⟩ := h p hp
  have hb' : Below w.heap.size w w' := hb.mono hB
  exact ⟨b, off, h1, Nat.lt_of_lt_of_le h2 hb'.size, uo, uc, (hb'.cell (p := ⟨b, off + p, none⟩) h2).trans h3, h4.below hb'⟩
/-- the walk with at most so many steps to come. -/
def TjK (w0 w : World) (A : TA) (nv : Value) (n : Nat) (nx : Nat → List Nat) (seen : Nat → Prop) (k : Nat) : Prop := ∃ F wh lo go pt met, TjAt w0 w A nv n nx F wh lo go pt met ∧ k = 2 * left nx go n + F.length ∧ ∀ x, seen x → wh x ≠ 0
/-- the walk, where it is back. -/
def TjEnd (w0 w : World) (A : TA) (nv : Value) (n : Nat) (nx : Nat → List Nat) (seen : Nat → Prop) : Prop := ∃ wh lo go pt met, TjAt w0 w A nv n nx [] wh lo go pt met ∧ ∀ x, seen x → wh x ≠ 0

set_option maxHeartbeats 6400000 in
set_option maxRecDepth 20000 in
/-- THE CONTRACT OF goOn. -/
theorem tjgo_any (w0 w : World) (A : TA) (no : Option Addr) (nc : Nat) (n : Nat) (nx : Nat → List Nat) (seen : Nat → Prop) (k0 : Nat) (hA : TAOk A) (hn : n ≤ 20000) (hnx : ∀ i, i < n → ∀ k ∈ nx i, k < n) (hxl : ∀ i, i < n → (nx i).length ≤ 140737488355328) (hs : w0.heap.size ≤ A.s) (hR : NextRows w0 no n nx) (h : TjK w0 w A (.slice no n nc) n nx seen k0) :
    Calls Try.prog 36 #[.pointer (some ⟨A.b, 0, none⟩)] w fun e w' => e = .returned (.tuple #[]) ∧ Hid (TjEnd w0 w' A (.slice no n nc) n nx seen) := by
  have HNX : Hid (∀ i, i < n → ∀ k ∈ nx i, k < n) := hnx
  have HXL : Hid (∀ i, i < n → (nx i).length ≤ 140737488355328) := hxl
  have HR : Hid (NextRows w0 no n nx) := hR
  have H0 : Hid (TjK w0 w A (.slice no n nc) n nx seen k0) := h
  clear hnx hxl hR h
  go_enter Try.func36, Try.ntmps36
  go_wp2_with fail
  go_loopg [] k0 (fun k wr => Hid (TjK w0 wr A (.slice no n nc) n nx seen k))
  case atStart => exact H0
  case round =>
    obtain ⟨F, wh, lo, go, pt, met, ⟨dv, ov, hT, hW⟩, hgk, hseen⟩ := hrel.out
    have HT : Hid (Tj n nx F wh lo go pt met) := hT
    have HW : Hid (TjW w0 wr A (.slice no n nc) n dv ov (downs F) (opens F) wh lo go pt met) := hW
    have HK : Hid (gk = 2 * left nx go n + F.length) := hgk
    have HS : Hid (∀ x, seen x → wh x ≠ 0) := hseen
    clear hrel hT hW hgk hseen H0
    cases F with
    | nil =>
      obtain ⟨ao, dc, rfl⟩ := owns_slice HW.out.od
      have k5 : wr.cell? ⟨A.b, 5, none⟩ = some (.slice ao 0 dc) := HW.out.dn
      have HE : Hid (TjEnd w0 wr A (.slice no n nc) n nx seen) := ⟨wh, lo, go, pt, met, ⟨_, _, HT.out, HW.out⟩, HS.out⟩
      clear HW HT HK HS
      go_wp2_with fail
      go_end0
      exact ⟨rfl, HE⟩
    | cons f F =>
      obtain ⟨p, r⟩ := f
      have hpo : p ∈ opens ((p, r) :: F) := opens_head
      have hpn := HT.out.lt p hpo
      have hfew := HT.out.few_opens
      have hdn := downs_le ((p, r) :: F)
      have hDl : (downs ((p, r) :: F)).length = (downs F).length + 1 := by simp [downs]
      obtain ⟨g, c, rfl, hgt, hgl⟩ := HW.out.od.form (by omega)
      obtain ⟨hNc, hgA, hcell⟩ := owns_cells HW.out.od
      have hcp := hcell (downs F).length (by omega)
      have e1 : (downs ((p, r) :: F)).getD (downs F).length 0 = p := by simp [downs, List.getD_eq_getElem?_getD]
      rw [e1] at hcp
      rw [hDl] at HW
      have k5 := HW.out.dn
      obtain ⟨D, hD⟩ : ∃ D, D = (downs F).length := ⟨_, rfl⟩
      rw [← hD] at HW k5 hcp
      have hD2 : D + 1 ≤ 20000 := by omega
      have hb0 := (HW.out.below.mono hs)
      obtain ⟨nb, noff, rfl, hnb, uo, uc, hcu0, hnv0⟩ := HR.out p hpn
      have hcu := (hb0.cell (p := ⟨nb, noff + p, none⟩) hnb).trans hcu0
      have hnv := hnv0.below hb0
      have k2 := HW.out.gn
      have k9 := HW.out.cg
      have r9 : wr.cell? ⟨A.bg, p, none⟩ = some (.int .i64 (go p : Int)) := HW.out.rg.cell hpn
      have hgo := HT.out.gole p hpn
      have hxp := HXL.out p hpn
      have HGl : Hid (go p ≤ (nx p).length) := hgo
      clear hcell hDl e1 hdn hfew hNc hcu0 hnv0 hb0 hD
      obtain ⟨ln, hln⟩ : ∃ ln, ln = (nx p).length := ⟨_, rfl⟩
      have HLN : Hid (ln = (nx p).length) := hln
      rw [← hln] at hcu hnv hgo hxp
      obtain ⟨gp, hgp⟩ : ∃ gp, gp = go p := ⟨_, rfl⟩
      have HGP : Hid (gp = go p) := hgp
      rw [← hgp] at r9 hgo
      clear hln hgp
      by_cases hgl2 : gp = ln
      · have hleave := fun q => tjleave_any w0 (wr.drewN q) A (.slice (some ⟨nb, noff, none⟩) n nc) n nx p r F wh lo go pt met hA hn HNX.out (by rw [← HGP.out, ← HLN.out]; exact hgl2) ⟨_, _, HT.out, HW.out.drewN q⟩
        subst hgl2
        go_wp2_with fail
        go_quiet (fail)
        go_wp2_with fail
        go_quiet (fail)
        go_wp2_with (go_at_call 42; refine (hleave _).mono ?_; rintro e w2 ⟨rfl, HW2⟩)
        go_roundg (2 * left nx go n + F.length)
        case measure => rw [HK.out]; simp
        case rel =>
          obtain ⟨F', lo', pt', h1, h2⟩ := HW2.out
          exact ⟨F', wh, lo', go, pt', met, h2, by rw [h1], HS.out⟩
      · have hgl3 : gp < ln := by omega
        have hgj : go p < (nx p).length := by rw [← HGP.out, ← HLN.out]; exact hgl3
        obtain ⟨ub, uoff, rfl, hub, hcy⟩ := hnv.num (i := gp) (by rw [← HLN.out]; exact hgl3)
        obtain ⟨y, hy⟩ : ∃ y, y = (nx p).getD gp 0 := ⟨_, rfl⟩
        rw [← hy] at hcy
        have hyn : y < n := by
          rw [hy]
          refine HNX.out p hpn _ ?_
          rw [List.getD_eq_getElem?_getD, List.getElem?_eq_getElem (by rw [← HLN.out]; exact hgl3)]
          exact List.getElem_mem _
        have HY : Hid ((nx p).getD (go p) 0 = y) := by show _ = _; rw [← HGP.out]; exact hy.symm
        have H1 : Hid (∀ m, TjW w0 ((wr.drewN m).setCell ⟨A.bg, p, none⟩ (.int .i64 ((gp + 1 : Nat) : Int))) A (.slice (some ⟨nb, noff, none⟩) n nc) n (.slice (some ⟨g, 0, none⟩) (D + 1) c) ov (downs ((p, r) :: F)) (opens ((p, r) :: F)) wh lo (upd go p (gp + 1)) pt met) := fun m => (HW.out.drewN m).setG hA p (gp + 1)
        have e1 : ((gp + 1 : Nat) : Int) = (gp : Int) + 1 := by omega
        rw [e1] at H1
        have f9 := HW.out.rg.frozen p
        have HLft : Hid (left nx (upd go p (gp + 1)) n + 1 = left nx go n) := by
          have := left_upd (nx := nx) (go := go) hgj hpn
          rw [← HGP.out] at this
          exact this
        have hmet : met ≤ n := by rw [HT.out.few]; exact nz_le _ _
        clear hy e1 hnv
        go_wp2_with fail
        go_quiet (fail)
        generalize nq = nq1
        go_wp2_with fail
        go_quiet (fail)
        generalize nq = nq2
        go_wp2_with fail
        go_quiet (fail)
        generalize nq = nq3
        go_upto_region 6 with fail
        have H5 : Hid _ := H1.out (nq1 + nq2 + nq3)
        clear H1 HW hcp k5 hcu k2 k9 r9 hcy f9 hub
        generalize (wr.drewN (nq1 + nq2 + nq3)).setCell ⟨A.bg, p, none⟩ (.int .i64 ((gp : Int) + 1)) = w5 at H5 ⊢
        have k7 := H5.out.cw
        have r7 : w5.cell? ⟨A.bw, y, none⟩ = some (.int .i64 (wh y : Int)) := H5.out.rw.cell hyn
        by_cases hwy : wh y = 0
        · have HTd : Hid (Tj n nx ((y, []) :: (p, r) :: F) (upd wh y (met + 1)) (upd lo y (met + 1)) (upd go p (gp + 1)) pt (met + 1)) := by
            have := HT.out.descend hgj HY.out hyn hwy
            rw [← HGP.out] at this
            exact this
          have hlt : met < n := by rw [HT.out.few]; exact nz_lt hwy hyn
          have hfw := HT.out.few_opens
          have hdw := downs_le ((p, r) :: F)
          have hme := tjmeet_any w0 w5 A (.slice (some ⟨nb, noff, none⟩) n nc) n (.slice (some ⟨g, 0, none⟩) (D + 1) c) ov (downs ((p, r) :: F)) (opens ((p, r) :: F)) wh lo (upd go p (gp + 1)) pt met y hA hyn (by omega) (by omega) (by omega) H5.out
          rw [hwy] at r7
          have HSy : Hid (∀ x, seen x → upd wh y (met + 1) x ≠ 0) := fun x hx => by
            by_cases e : x = y
            · subst e; rw [upd_same]; omega
            · rw [upd_other e]; exact HS.out x hx
          have HLf2 : Hid (2 * left nx (upd go p (gp + 1)) n + ((y, []) :: (p, r) :: F).length < gk) := by
            show _ < _
            have h1 := HLft.out
            rw [HK.out]
            simp only [List.length_cons]
            omega
          clear HLft HK HT HS H5 hwy
          go_wp2_with (go_at_call 35; refine hme.mono ?_; rintro e w6 ⟨rfl, HW6⟩)
          go_roundg (2 * left nx (upd go p (gp + 1)) n + ((y, []) :: (p, r) :: F).length)
          case measure => exact HLf2.out
          case rel =>
            obtain ⟨dv', ov', h6⟩ := HW6.out
            exact ⟨(y, []) :: (p, r) :: F, _, _, _, _, _, ⟨dv', ov', HTd.out, h6⟩, rfl, HSy.out⟩
        · have hwy2 : ¬ (wh y : Int) = 0 := by omega
          have HLf2 : Hid (2 * left nx (upd go p (gp + 1)) n + ((p, r) :: F).length < gk) := by
            show _ < _
            have h1 := HLft.out
            rw [HK.out]
            omega
          have k11 := H5.out.cp
          have r11 : w5.cell? ⟨A.bp, y, none⟩ = some (.int .i64 (pt y)) := H5.out.rp.cell hyn
          by_cases hpy : pt y = -1
          · have hyo : y ∈ opens ((p, r) :: F) := (HT.out.old y hyn hwy).resolve_right (fun x => x hpy)
            have HTa : Hid (Tj n nx ((p, r) :: F) wh (upd lo p (min (lo p) (wh y))) (upd go p (gp + 1)) pt met) := by
              have := HT.out.along (v := min (lo p) (wh y)) hgj HY.out (Nat.min_le_left _ _) (by
                by_cases hm : lo p ≤ wh y
                · exact .inl (Nat.min_eq_left hm)
                · exact .inr ⟨Nat.min_eq_right (by omega), hyo⟩) (.inr ⟨hyo, Nat.min_le_right _ _⟩)
              rw [← HGP.out] at this
              exact this
            have HWa : Hid (TjW w0 (w5.setCell ⟨A.bl, p, none⟩ (.int .i64 ((min (lo p) (wh y) : Nat) : Int))).drew A (.slice (some ⟨nb, noff, none⟩) n nc) n (.slice (some ⟨g, 0, none⟩) (D + 1) c) ov (downs ((p, r) :: F)) (opens ((p, r) :: F)) wh (upd lo p (min (lo p) (wh y))) (upd go p (gp + 1)) pt met) := (H5.out.setL hA p _).drew
            have k8 := H5.out.cl
            have r8 : w5.cell? ⟨A.bl, p, none⟩ = some (.int .i64 (lo p : Int)) := H5.out.rl.cell hpn
            have f8 := H5.out.rl.frozen p
            rw [hpy] at r11
            clear HLft HK HT H5 hwy hpy
            generalize wh y = b at *
            generalize lo p = a at *
            obtain ⟨mm, hmm⟩ : ∃ mm, mm = min a b := ⟨_, rfl⟩
            rw [← hmm] at HTa HWa
            by_cases hba : b < a
            · obtain rfl : mm = b := by omega
              have h1 : (mm : Int) < (a : Int) := by omega
              clear hmm
              go_wp2_with fail
              go_region
              go_wp2_with fail
              go_roundg (2 * left nx (upd go p (gp + 1)) n + ((p, r) :: F).length)
              case measure => exact HLf2.out
              case rel => exact ⟨(p, r) :: F, _, _, _, _, _, ⟨_, _, HTa.out, HWa.out⟩, rfl, HS.out⟩
            · obtain rfl : mm = a := by omega
              have h1 : ¬ (b : Int) < (mm : Int) := by omega
              clear hmm
              go_wp2_with fail
              go_region
              go_wp2_with fail
              go_roundg (2 * left nx (upd go p (gp + 1)) n + ((p, r) :: F).length)
              case measure => exact HLf2.out
              case rel => exact ⟨(p, r) :: F, _, _, _, _, _, ⟨_, _, HTa.out, HWa.out⟩, rfl, HS.out⟩
          · have HTa : Hid (Tj n nx ((p, r) :: F) wh lo (upd go p (gp + 1)) pt met) := by
              have := HT.out.along (v := lo p) hgj HY.out (Nat.le_refl _) (.inl rfl) (.inl hpy)
              have e : upd lo p (lo p) = lo := by
                funext x
                by_cases hx : x = p
                · subst hx; rw [upd_same]
                · rw [upd_other hx]
              rw [e, ← HGP.out] at this
              exact this
            generalize wh y = b at *
            generalize pt y = c1 at *
            clear HLft HK HT
            go_wp2_with fail
            go_roundg (2 * left nx (upd go p (gp + 1)) n + ((p, r) :: F).length)
            case measure => exact HLf2.out
            case rel => exact ⟨(p, r) :: F, _, _, _, _, _, ⟨_, _, HTa.out, H5.out⟩, rfl, HS.out⟩
end Go.Proofs.Ytknneajaklcjdaa
