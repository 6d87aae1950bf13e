/-
  The contract of (*walk).leave.
-/
import Derived.Test.YtknneajaklcjdaaTjTell
import Derived.Test.YtknneajaklcjdaaTjMeet
namespace Go.Proofs.Ytknneajaklcjdaa
open Go.ChangeShapes Go.WideShapes Go.ChangeAt Go.RowKit Go.Deep
open Terms

/-- the walk, as it stands and as it lies. -/
def TjAt (w0 w : World) (A : TA) (nv : Value) (n : Nat) (nx : Nat → List Nat) (F : Frames) (wh lo go : Nat → Nat) (pt : Nat → Int) (met : Nat) : Prop := ∃ dv ov, Tj n nx F wh lo go pt met ∧ TjW w0 w A nv n dv ov (downs F) (opens F) wh lo go pt met
theorem downs_le : ∀ F : Frames, (downs F).length ≤ (opens F).length
  | [] => Nat.le_refl _
  | (d, r) :: F => by
    have := downs_le F
    simp only [downs, opens, List.length_append, List.length_cons, List.length_nil]
    omega
theorem downs_length : ∀ F : Frames, (downs F).length = F.length
  | [] => rfl
  | (d, r) :: F => by
    have := downs_length F
    simp only [downs, List.length_append, List.length_cons, List.length_nil]
    omega
theorem Tj.few_opens {n : Nat} {nx : Nat → List Nat} {F : Frames} {wh lo go : Nat → Nat} {pt : Nat → Int} {met : Nat} (h : Tj n nx F wh lo go pt met) : (opens F).length ≤ n := nodup_le h.nodup h.lt

set_option maxHeartbeats 3200000 in
set_option maxRecDepth 20000 in
/-- THE CONTRACT OF leave. -/
theorem tjleave_any (w0 w : World) (A : TA) (nv : Value) (n : Nat) (nx : Nat → List Nat) (p : Nat) (r : List Nat) (F : Frames) (wh lo go : Nat → Nat) (pt : Nat → Int) (met : Nat) (hA : TAOk A) (hn : n ≤ 20000) (hnx : ∀ i, i < n → ∀ k ∈ nx i, k < n) (hg : go p = (nx p).length) (h : TjAt w0 w A nv n nx ((p, r) :: F) wh lo go pt met) :
    Calls Try.prog 42 #[.pointer (some ⟨A.b, 0, none⟩), .int .i64 (p : Int)] w fun e w' => e = .returned (.tuple #[]) ∧ Hid (∃ F' lo' pt', F'.length = F.length ∧ TjAt w0 w' A nv n nx F' wh lo' go pt' met) := by
  obtain ⟨dv, ov, hT, hW⟩ := h
  have hpo : p ∈ opens ((p, r) :: F) := opens_head
  have hpn := hT.lt p hpo
  have hfew := hT.few_opens
  have hdn := downs_le ((p, r) :: F)
  have hlp := hT.low p hpo
  have hwp := hT.pos p hpo
  have hmn : met ≤ n := by rw [hT.few]; exact nz_le _ _
  have hDl : (downs ((p, r) :: F)).length = (downs F).length + 1 := by simp [downs]
  obtain ⟨g, c, rfl, hgt, hgl⟩ := hW.od.form (by omega)
  obtain ⟨hNc, hgA, hcell⟩ := owns_cells hW.od
  rw [hDl] at hW hNc hcell
  have HOT : Hid (w.ownsRow A.t 3 1 (.slice (some ⟨g, 0, none⟩) (downs F).length c) (downs F).length (nvals (downs F))) := by
    have := hW.od
    rw [hDl] at this
    have := owns_take this (j := (downs F).length) (by omega)
    have e : (nvals (downs ((p, r) :: F))).take (downs F).length = nvals (downs F) := by simp [nvals, downs]
    rwa [e] at this
  have H1 : Hid (TjW w0 (w.setCell ⟨A.b, 5, none⟩ (.slice (some ⟨g, 0, none⟩) (downs F).length c)).drew A nv n (.slice (some ⟨g, 0, none⟩) (downs F).length c) ov (downs F) (opens ((p, r) :: F)) wh lo go pt met) := (hW.setDown hA HOT.out (fun q h1 h2 => hW.ap q (by rw [← h1]; rfl) h2)).drew
  have HT : Hid (Tj n nx ((p, r) :: F) wh lo go pt met) := hT
  have HG : Hid (go p = (nx p).length) := hg
  have HNX : Hid (∀ i, i < n → ∀ k ∈ nx i, k < n) := hnx
  have HCd : Hid (∀ q s F', F = (q, s) :: F' → 0 < (downs F).length ∧ (downs F).getD ((downs F).length - 1) 0 = q) := fun q s F' e => by
    subst e
    simp [downs, List.getD_eq_getElem?_getD]
  have HCell : Hid (∀ i, i < (downs F).length → w.cell? ⟨g, i, none⟩ = some (.int .i64 ((downs F).getD i 0 : Int))) := fun i hi => by
    rw [hcell i (by omega)]
    simp [downs, List.getD_eq_getElem?_getD, List.getElem?_append_left hi]
  have k5 := hW.dn
  have kf5 := hW.fz 5
  obtain ⟨D, hD⟩ : ∃ D, D = (downs F).length := ⟨_, rfl⟩
  have HDe : Hid (D = (downs F).length) := hD
  rw [← hD] at H1 HOT k5 hNc HCd HCell
  have hD2 : D + 1 ≤ 20000 := by omega
  clear hW hT hcell hD hg hnx hDl hdn hfew
  go_enter Try.func42, Try.ntmps42
  go_wp2_with fail
  go_region
  have hgb : g ≠ A.b := by have := hA.tb; omega
  have HC1 : Hid (∀ i, i < D → (w.setCell ⟨A.b, 5, none⟩ (.slice (some ⟨g, 0, none⟩) D c)).drew.cell? ⟨g, i, none⟩ = some (.int .i64 ((downs F).getD i 0 : Int))) := fun i hi => by
    show (w.setCell ⟨A.b, 5, none⟩ (.slice (some ⟨g, 0, none⟩) D c)).cell? _ = _
    rw [World.cell?_setCell_far _ _ _ _ (fun e => hgb e.symm)]; exact HCell.out i hi
  generalize (w.setCell ⟨A.b, 5, none⟩ (.slice (some ⟨g, 0, none⟩) D c)).drew = w1 at H1 HC1 ⊢
  clear HCell k5 kf5 HOT
  have k7 := H1.out.cw
  have k8 := H1.out.cl
  have r7 : w1.cell? ⟨A.bw, p, none⟩ = some (.int .i64 (wh p : Int)) := H1.out.rw.cell hpn
  have r8 : w1.cell? ⟨A.bl, p, none⟩ = some (.int .i64 (lo p : Int)) := H1.out.rl.cell hpn
  obtain ⟨hl0, hl1, _⟩ := hlp
  obtain ⟨hw0, hw1⟩ := hwp
  by_cases hlw : lo p = wh p
  · have HTT := HT.out.tell HNX.out HG.out hlw
    have HTe : Hid (Tj n nx F wh lo go (tellPt pt (p :: r) (minL p (p :: r))) met) := HTT
    have HRn : Hid (¬ p ∈ r) := fun hh => by have := HT.out.before.2 p hh; omega
    have HTl := fun w' (hh : TjW w0 w' A nv n (.slice (some ⟨g, 0, none⟩) D c) ov (downs F) (opens F ++ p :: r) wh lo go pt met) => tjtell_any w0 w' A nv n (.slice (some ⟨g, 0, none⟩) D c) ov (downs F) (opens F) r wh lo go pt met p hA (fun x hx => HT.out.lt x (List.mem_append.2 (.inr hx))) HRn.out (by have := HT.out.few_opens; exact Nat.le_trans this hn) hh
    have H1' : Hid (∀ q, TjW w0 (w1.drewN q) A nv n (.slice (some ⟨g, 0, none⟩) D c) ov (downs F) (opens F ++ p :: r) wh lo go pt met) := fun q => H1.out.drewN q
    clear HTT
    generalize lo p = a at *
    generalize wh p = b at *
    subst hlw
    go_wp2_with fail
    go_quiet (fail)
    have hta := HTl (w1.drewN nq) (H1'.out nq)
    clear HTl H1'
    go_wp2_with (go_at_call 44; refine hta.mono ?_; rintro e w2 ⟨rfl, HW2⟩)
    refine bodyPost_ret (results_none rfl _ _ _) rfl ?_
    obtain ⟨ov', h2⟩ := HW2.out
    exact ⟨rfl, F, lo, _, rfl, _, ov', HTe.out, h2⟩
  · cases F with
    | nil => exact absurd HT.out.bottom hlw
    | cons f F =>
      obtain ⟨q, s⟩ := f
      obtain ⟨hD0, hDq⟩ := HCd.out q s F rfl
      have hcq := HC1.out (D - 1) (by omega)
      rw [hDq] at hcq
      obtain ⟨D', rfl⟩ : ∃ D', D = D' + 1 := ⟨D - 1, by omega⟩
      simp only [Nat.add_sub_cancel] at hcq
      have hqo : q ∈ opens ((p, r) :: (q, s) :: F) := opens_low opens_head
      have hqn := HT.out.lt q hqo
      have hlq := (HT.out.low q hqo).2.1
      have hwq := (HT.out.pos q hqo).2
      have HTL : Hid (Tj n nx ((q, s ++ p :: r) :: F) wh (upd lo q (min (lo q) (lo p))) go pt met) := HT.out.leave HG.out hlw
      have HWL : Hid (∀ m, TjW w0 ((w1.drewN m).setCell ⟨A.bl, q, none⟩ (.int .i64 ((min (lo q) (lo p) : Nat) : Int))) A nv n (.slice (some ⟨g, 0, none⟩) (D' + 1) c) ov (downs ((q, s ++ p :: r) :: F)) (opens ((q, s ++ p :: r) :: F)) wh (upd lo q (min (lo q) (lo p))) go pt met) := fun m => by
        have e1 : opens ((q, s ++ p :: r) :: F) = opens ((p, r) :: (q, s) :: F) := by simp [opens]
        have e2 : downs ((q, s ++ p :: r) :: F) = downs ((q, s) :: F) := rfl
        rw [e1, e2]
        exact (H1.out.drewN m).setL hA q _
      have k5 := H1.out.dn
      have r9 : w1.cell? ⟨A.bl, q, none⟩ = some (.int .i64 (lo q : Int)) := H1.out.rl.cell hqn
      have f9 := H1.out.rl.frozen q
      have hlw2 : ¬ (lo p : Int) = (wh p : Int) := by omega
      generalize wh p = b at *
      generalize lo p = a at *
      generalize lo q = a2 at *
      obtain ⟨mm, hmm⟩ : ∃ mm, mm = min a2 a := ⟨_, rfl⟩
      rw [← hmm] at HTL HWL
      have hmi : min (a2 : Int) (a : Int) = (mm : Int) := by omega
      clear hmm HCd HC1 HDe H1
      go_wp2_with fail
      go_quiet (fail)
      go_wp2_with fail
      go_quiet (fail)
      go_wp2_with fail
      go_region
      go_end0
      have e : (if a < a2 then (a : Int) else (a2 : Int)) = (mm : Int) := by split <;> omega
      rw [e]
      exact ⟨rfl, (q, s ++ p :: r) :: F, _, _, rfl, _, _, HTL.out, HWL.out _⟩
end Go.Proofs.Ytknneajaklcjdaa
