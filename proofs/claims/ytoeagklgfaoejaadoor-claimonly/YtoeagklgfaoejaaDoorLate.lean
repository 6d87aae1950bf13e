/-
  Joined out of LogicFollow, ClaimM, ClaimM2, ClaimM3, ClaimM4, ClaimN, ClaimL, ClaimS, GrownTrees, KeepEnv, CoM, CoJ, ClaimA, CoWalk, CoOpen, in their order: a claim bears at most so many files.
-/
import Derived.Test.YtoeagklgfaoejaaDoorLogicMeet
import Derived.Test.YtoeagklgfaoejaaDoorLogicComes
import Derived.Test.YtoeagklgfaoejaaDoorWClm
import Derived.Test.YtoeagklgfaoejaaDoorWordM
import Derived.Test.YtoeagklgfaoejaaDoorLogicWait
import Derived.Test.YtoeagklgfaoejaaDoorKeepForm
import Derived.Test.YtoeagklgfaoejaaDoorGrown3
import Derived.Test.YtoeagklgfaoejaaDoorTrees
import Derived.Deep.RegionHeld3
import Derived.Laws.IdiomArrays
import Derived.Test.YtoeagklgfaoejaaDoorKeepHolds
import Derived.Deep.AppendLies
import Derived.Test.YtoeagklgfaoejaaDoorKeepHolds2
import Derived.Test.YtoeagklgfaoejaaDoorWClm2
import Derived.Test.YtoeagklgfaoejaaDoorLogicTr3
import Derived.Test.YtoeagklgfaoejaaDoorLogicAh
import Derived.Deep.Cut
import Derived.Deep.CutBlock
import Derived.Deep.CutRange
import Derived.Deep.DeepCutAuto
/-
  What logic.Follows answers; its contract.
-/
namespace Go.Proofs.YtoeagklgfaoejaaDoor
open Go.ChangeShapes Go.WideShapes Go.ChangeAt Go.RowKit Go.Deep
open Terms

/-- does the op at a place hold as it should? -/
def comeAt (l : List (Int × Int)) (h g : Nat → Bool) (p : Nat) : Bool := comeB (l.getD p (0, 0)).1 (h (p + 1)) (h (sec l p)) (g p) (g (p + 1))
/-- do two claims follow one another? -/
def Fol (l : List (Int × Int)) (h g : Nat → Bool) : Prop := ∀ p, p < l.length → lookB (l.getD p (0, 0)).1 = true → h p = comeAt l h g p
noncomputable def fcode (l : List (Int × Int)) (now : List Bool) (claim : Int) (next : List Bool) (later : Int) : Int := if now.length ≠ next.length then 1 else if tcode l now claim ≠ 0 then tcode l now claim else tcode l next later
open Classical in
noncomputable def folR (l : List (Int × Int)) (now : List Bool) (claim : Int) (next : List Bool) (later : Int) : Bool := if fcode l now claim next later = 0 then decide (Fol l (tru l now claim) (tru l next later)) else false
theorem folR_bad {l : List (Int × Int)} {now : List Bool} {claim : Int} {next : List Bool} {later : Int} (h : fcode l now claim next later ≠ 0) : folR l now claim next later = false := by unfold folR; rw [if_neg h]
open Classical in
theorem folR_yes {l : List (Int × Int)} {now : List Bool} {claim : Int} {next : List Bool} {later : Int} (h : fcode l now claim next later = 0) (h2 : Fol l (tru l now claim) (tru l next later)) : folR l now claim next later = true := by unfold folR; rw [if_pos h]; exact decide_eq_true h2
open Classical in
theorem folR_no {l : List (Int × Int)} {now : List Bool} {claim : Int} {next : List Bool} {later : Int} (h2 : ¬ Fol l (tru l now claim) (tru l next later)) : folR l now claim next later = false := by
  unfold folR
  split
  · exact decide_eq_false h2
  · rfl

theorem fol_len (v : Value) (no xo : Option Addr) (nn nc xn xc : Nat) (claim later : Int) (oo : Option Addr) (on oc : Nat) (hv : v = .slice oo on oc) (w : World) (h : nn ≠ xn) :
    Calls Tryd.prog 9 #[v, .slice no nn nc, .int .i64 claim, .slice xo xn xc, .int .i64 later] w fun e w' => e = .returned (.tuple #[.bool false, .int .i64 1]) ∧ Below w.heap.size w w' := by
  subst hv
  have hne : ¬ (nn : Int) = xn := by omega
  clear h
  go_enter Tryd.func9, Tryd.ntmps9
  go_wp2_with fail
  go_ret2
  exact ⟨rfl, Below.refl _ _⟩

set_option maxHeartbeats 3200000 in
set_option maxRecDepth 20000 in
/-- the answer, once both moments' truths are there. -/
theorem fol_main (oo : Option Addr) (oc : Nat) (l : List (Int × Int)) (no xo : Option Addr) (nc xc : Nat) (now next : List Bool) (claim later : Int) (w : World) (hB : 0 < w.heap.size) (hT : TabAt w) (hV : OpsV w (.slice oo l.length oc) l) (hL : BoolsV w (.slice no now.length nc) now) (hX : BoolsV w (.slice xo next.length xc) next) (hlen : now.length = next.length) :
    Calls Tryd.prog 9 #[.slice oo l.length oc, .slice no now.length nc, .int .i64 claim, .slice xo next.length xc, .int .i64 later] w fun e w' => e = .returned (.tuple #[.bool (folR l now claim next later), .int .i64 (fcode l now claim next later)]) ∧ Below w.heap.size w w' := by
  have hrd := lread2 _ l now.length w hB hT hV
  by_cases hc : lcode now.length l = 0
  · obtain ⟨_, _, hz, _, h6⟩ := lcode_zero hc
    have hcx : lcode next.length l = 0 := by rw [← hlen]; exact hc
    have hrd2 : Calls Tryd.prog 14 #[.slice oo l.length oc, .int .i64 (now.length : Int)] w fun e w' => Below w.heap.size w w' ∧ ∃ B aao ac, e = .returned (.tuple #[.agg #[.slice oo l.length oc, .slice (some ⟨B, 0, none⟩) l.length l.length, .slice aao (aheadL l).length ac], .int .i64 0]) ∧ Hid (WholeAt w' (.slice oo l.length oc) B (.slice aao (aheadL l).length ac) l) := hrd.mono fun e w' ⟨h1, _, h3⟩ => ⟨h1, h3 hc⟩
    have HM : Hid (∀ w1 B aao ac, Below w.heap.size w w1 → WholeAt w1 (.slice oo l.length oc) B (.slice aao (aheadL l).length ac) l → Calls Tryd.prog 15 #[.agg #[.slice oo l.length oc, .slice (some ⟨B, 0, none⟩) l.length l.length, .slice aao (aheadL l).length ac], .slice no now.length nc, .int .i64 claim] w1 (MethPost l now claim w1)) := fun w1 B aao ac hb hW => meth_any _ B _ _ l now claim w1 hc hW (hL.below hb)
    have HM2 : Hid (∀ w1 B aao ac, Below w.heap.size w w1 → WholeAt w1 (.slice oo l.length oc) B (.slice aao (aheadL l).length ac) l → Calls Tryd.prog 15 #[.agg #[.slice oo l.length oc, .slice (some ⟨B, 0, none⟩) l.length l.length, .slice aao (aheadL l).length ac], .slice xo next.length xc, .int .i64 later] w1 (MethPost l next later w1)) := fun w1 B aao ac hb hW => meth_any _ B _ _ l next later w1 hcx hW (hX.below hb)
    have HWA : Hid (∀ w1 B aao ac, WholeAt w1 (.slice oo l.length oc) B (.slice aao (aheadL l).length ac) l → ∀ o, WholeAt (w1.alloc o) (.slice oo l.length oc) B (.slice aao (aheadL l).length ac) l) := fun w1 B aao ac hW o => hW.below ((Below.refl _ _).alloc (Nat.le_refl _) o)
    by_cases hcl : ClaimNo l claim
    · have hft : fcode l now claim next later = 2 := by unfold fcode; rw [if_neg (by simpa using hlen), tcode_no hc hcl, if_pos (by decide)]
      rw [folR_bad (by rw [hft]; decide), hft]
      have HM3 : Hid (∀ w1 B aao ac, Below w.heap.size w w1 → WholeAt w1 (.slice oo l.length oc) B (.slice aao (aheadL l).length ac) l → ∀ o, Calls Tryd.prog 15 #[.agg #[.slice oo l.length oc, .slice (some ⟨B, 0, none⟩) l.length l.length, .slice aao (aheadL l).length ac], .slice no now.length nc, .int .i64 claim] (w1.alloc o) fun e w' => e = .returned (.tuple #[.slice none 0 0, .int .i64 2]) ∧ Below w1.heap.size w1 w') := fun w1 B aao ac hb hW o => (HM.out _ B aao ac (hb.alloc hb.size o) (HWA.out _ B aao ac hW o)).mono fun e w' ⟨h1, h2, _⟩ => ⟨h2 hcl, ((Below.refl _ _).alloc (Nat.le_refl _) o).trans (h1.mono (by simp))⟩
      generalize (aheadL l).length = an at *
      rw [← hlen]
      generalize now.length = ln at *
      generalize l.length = n at *
      clear hrd hT hV hL hX hc hcx HM HM2 HWA hcl hft hz h6 hlen
      go_enter Tryd.func9, Tryd.ntmps9
      go_wp2_with (first | (go_at_call 14; refine hrd2.mono ?_; rintro e w1 ⟨hb1, B, aao, ac, rfl, HW⟩; have hme := HM3.out w1 B aao ac hb1 HW.out) | (go_at_call 15; refine (hme _).mono ?_; rintro e w2 ⟨rfl, hb2⟩))
      go_ret2
      exact ⟨rfl, hb1.trans (hb2.mono hb1.size)⟩
    · have ht1 : tcode l now claim = 0 := tcode_ok hc hcl
      have hft : fcode l now claim next later = tcode l next later := by unfold fcode; rw [if_neg (by simpa using hlen), ht1]; rfl
      have HM3 : Hid (∀ w1 B aao ac, Below w.heap.size w w1 → WholeAt w1 (.slice oo l.length oc) B (.slice aao (aheadL l).length ac) l → Calls Tryd.prog 15 #[.agg #[.slice oo l.length oc, .slice (some ⟨B, 0, none⟩) l.length l.length, .slice aao (aheadL l).length ac], .slice no now.length nc, .int .i64 claim] (w1.alloc (.cells #[.slice oo l.length oc, .slice (some ⟨B, 0, none⟩) l.length l.length, .slice aao (aheadL l).length ac] 53)) fun e w' => ∃ bH, e = .returned (.tuple #[.slice (some ⟨bH, 0, none⟩) l.length l.length, .int .i64 0]) ∧ Below w1.heap.size w1 w' ∧ w1.heap.size < w'.heap.size ∧ w'.cell? ⟨w1.heap.size, 0, none⟩ = some (.slice oo l.length oc) ∧ w'.cell? ⟨w1.heap.size, 1, none⟩ = some (.slice (some ⟨B, 0, none⟩) l.length l.length) ∧ w'.cell? ⟨w1.heap.size, 2, none⟩ = some (.slice aao (aheadL l).length ac) ∧ Hid (WholeAt w' (.slice oo l.length oc) B (.slice aao (aheadL l).length ac) l ∧ w'.rowIs bH 4 l.length (fun j => .bool (tru l now claim j)))) := fun w1 B aao ac hb hW => (HM.out _ B aao ac (hb.alloc hb.size _) (HWA.out _ B aao ac hW _)).mono fun e w' ⟨h1, _, h3⟩ => by
        obtain ⟨bH, he, hr⟩ := h3 hcl
        have h1' : Below (w1.heap.size + 1) (w1.alloc (.cells #[.slice oo l.length oc, .slice (some ⟨B, 0, none⟩) l.length l.length, .slice aao (aheadL l).length ac] 53)) w' := by simpa using h1
        have hb' : Below w1.heap.size w1 w' := ((Below.refl _ _).alloc (Nat.le_refl _) _).trans (h1'.mono (Nat.le_succ _))
        refine ⟨bH, he, hb', by have := h1'.size; simp at this; omega, (h1'.cell (p := ⟨w1.heap.size, 0, none⟩) (Nat.lt_succ_self _)).trans (by simp [go_sem]), (h1'.cell (p := ⟨w1.heap.size, 1, none⟩) (Nat.lt_succ_self _)).trans (by simp [go_sem]), (h1'.cell (p := ⟨w1.heap.size, 2, none⟩) (Nat.lt_succ_self _)).trans (by simp [go_sem]), hW.below hb', hr⟩
      by_cases hcl2 : ClaimNo l later
      · have hft2 : fcode l now claim next later = 2 := by rw [hft, tcode_no hcx hcl2]
        rw [folR_bad (by rw [hft2]; decide), hft2]
        have HM4 : Hid (∀ w1 B aao ac, Below w.heap.size w w1 → WholeAt w1 (.slice oo l.length oc) B (.slice aao (aheadL l).length ac) l → Calls Tryd.prog 15 #[.agg #[.slice oo l.length oc, .slice (some ⟨B, 0, none⟩) l.length l.length, .slice aao (aheadL l).length ac], .slice xo next.length xc, .int .i64 later] w1 fun e w' => e = .returned (.tuple #[.slice none 0 0, .int .i64 2]) ∧ Below w1.heap.size w1 w') := fun w1 B aao ac hb hW => (HM2.out _ B aao ac hb hW).mono fun e w' ⟨h1, h2, _⟩ => ⟨h2 hcl2, h1⟩
        generalize (aheadL l).length = an at *
        rw [← hlen] at HM4 ⊢
        generalize now.length = ln at *
        generalize hnn : l.length = n at *
        clear hrd hT hV hL hX hc hcx HM HM2 HWA hcl hcl2 hft hft2 ht1 hz h6 hlen hnn
        go_enter Tryd.func9, Tryd.ntmps9
        go_wp2_with (first | (go_at_call 14; refine hrd2.mono ?_; rintro e w1 ⟨hb1, B, aao, ac, rfl, HW⟩; have hme := HM3.out w1 B aao ac hb1 HW.out) | (go_at_call 15; refine hme.mono ?_; clear hme; rintro e w2 ⟨bH, rfl, hb2, hs2, d0, d1, d2, HW2⟩; have hb12 := hb1.trans (hb2.mono hb1.size); have hme2 := HM4.out w2 B aao ac hb12 HW2.out.1) | (go_at_call 15; refine hme2.mono ?_; rintro e w3 ⟨rfl, hb3⟩))
        go_ret2
        exact ⟨rfl, hb12.trans (hb3.mono hb12.size)⟩
      · have hft2 : fcode l now claim next later = 0 := by rw [hft, tcode_ok hcx hcl2]
        have HM4 : Hid (∀ w1 B aao ac, Below w.heap.size w w1 → WholeAt w1 (.slice oo l.length oc) B (.slice aao (aheadL l).length ac) l → Calls Tryd.prog 15 #[.agg #[.slice oo l.length oc, .slice (some ⟨B, 0, none⟩) l.length l.length, .slice aao (aheadL l).length ac], .slice xo next.length xc, .int .i64 later] w1 fun e w' => ∃ bN, e = .returned (.tuple #[.slice (some ⟨bN, 0, none⟩) l.length l.length, .int .i64 0]) ∧ Below w1.heap.size w1 w' ∧ Hid (w'.rowIs bN 4 l.length (fun j => .bool (tru l next later j)))) := fun w1 B aao ac hb hW => (HM2.out _ B aao ac hb hW).mono fun e w' ⟨h1, _, h3⟩ => by
          obtain ⟨bN, he, hr⟩ := h3 hcl2
          exact ⟨bN, he, h1, hr⟩
        have HYes : Hid (Fol l (tru l now claim) (tru l next later) → folR l now claim next later = true) := folR_yes hft2
        have HNot : Hid (¬ Fol l (tru l now claim) (tru l next later) → folR l now claim next later = false) := folR_no
        have HFol : Hid (Fol l (tru l now claim) (tru l next later) ↔ ∀ p, p < l.length → lookB (l.getD p (0, 0)).1 = true → tru l now claim p = comeAt l (tru l now claim) (tru l next later) p) := Iff.rfl
        have HCo : Hid (∀ w2 B bH bN aao ac p, WholeAt w2 (.slice oo l.length oc) B (.slice aao (aheadL l).length ac) l → w2.rowIs bH 4 l.length (fun j => .bool (tru l now claim j)) → w2.rowIs bN 4 l.length (fun j => .bool (tru l next later j)) → p < l.length → lookB (l.getD p (0, 0)).1 = true → Calls Tryd.prog 16 #[.agg #[.slice oo l.length oc, .slice (some ⟨B, 0, none⟩) l.length l.length, .slice aao (aheadL l).length ac], .int .i64 (p : Int), .slice (some ⟨bH, 0, none⟩) l.length l.length, .slice (some ⟨bN, 0, none⟩) l.length l.length] w2 fun e w' => e = .returned (.bool (comeAt l (tru l now claim) (tru l next later) p)) ∧ Below w2.heap.size w2 w') := fun w2 B bH bN aao ac p hW hr hr2 hp hk => by
          obtain ⟨b, off, cap, hv, _⟩ := id hW
          injection hv with e1 e2 e3
          subst e1 e3
          exact comes_any b off l.length oc B bH bN l _ _ p _ aao _ ac w2 (place_in hW hz hr hp hk) (fun j hj => hr2.cell hj) hr2.lt
        have HG : Hid (∀ w2 B aao ac k, WholeAt w2 (.slice oo l.length oc) B (.slice aao (aheadL l).length ac) l → k < (aheadL l).length → ∃ p : Nat, (∃ ab aoff, aao = some ⟨ab, aoff, none⟩ ∧ ab < w2.heap.size ∧ w2.cell? ⟨ab, aoff + k, none⟩ = some (.int .i64 (p : Int))) ∧ p < l.length ∧ lookB (l.getD p (0, 0)).1 = true ∧ (aheadTo l p).length = k) := fun w2 B aao ac k hW hk => by
          obtain ⟨_, _, _, _, _, _, _, ao', ac', hsl, hai⟩ := hW
          injection hsl with e1 e2 e3
          subst e1
          obtain ⟨ab, aoff, rfl, habl, haat⟩ := hai (by intro h; rw [h] at hk; simp at hk)
          obtain ⟨p, h1, h2, h3, h4⟩ := aheadTo_get l l.length k hk
          have h1' : (aheadL l).getD k 0 = (p : Int) := h1
          exact ⟨p, ⟨ab, aoff, rfl, habl, by rw [haat k hk, h1']⟩, h2, h3, h4⟩
        have HLt : Hid (∀ p, p < l.length → lookB (l.getD p (0, 0)).1 = true → (aheadTo l p).length < (aheadL l).length) := fun p hp hk => aheadTo_lt l hp hk
        have HUq : Hid (∀ p q, lookB (l.getD p (0, 0)).1 = true → lookB (l.getD q (0, 0)).1 = true → (aheadTo l p).length = (aheadTo l q).length → p = q) := fun p q h1 h2 he => by
          rcases Nat.lt_trichotomy p q with h | h | h
          · have := aheadTo_lt l h h1; omega
          · exact h
          · have := aheadTo_lt l h h2; omega
        rw [hft2]
        generalize folR l now claim next later = fr at *
        generalize comeAt l (tru l now claim) (tru l next later) = cm at *
        generalize Fol l (tru l now claim) (tru l next later) = FP at *
        generalize tru l now claim = tn at *
        generalize tru l next later = tx at *
        obtain ⟨an, han⟩ : ∃ an, an = (aheadL l).length := ⟨_, rfl⟩
        rw [← han] at hrd2 HM3 HM4 HCo HG HLt h6
        rw [← hlen] at HM4 ⊢
        generalize now.length = ln at *
        generalize hnn : l.length = n at *
        clear hrd hT hV hL hX hc hcx HM HM2 HWA hcl hcl2 hft hft2 ht1 hz hlen hnn han
        go_enter Tryd.func9, Tryd.ntmps9
        go_wp2_with (first | (go_at_call 14; refine hrd2.mono ?_; rintro e w1 ⟨hb1, B, aao, ac, rfl, HW⟩; have hme := HM3.out w1 B aao ac hb1 HW.out) | (go_at_call 15; refine hme.mono ?_; clear hme; rintro e w2 ⟨bH, rfl, hb2, hs2, d0, d1, d2, HW2⟩; have hb12 := hb1.trans (hb2.mono hb1.size); have hme2 := HM4.out w2 B aao ac hb12 HW2.out.1) | (go_at_call 15; refine hme2.mono ?_; clear hme2; rintro e w3 ⟨bN, rfl, hb3, HN3⟩; have g0 := (hb3.cell (p := ⟨w1.heap.size, 0, none⟩) hs2).trans d0; have g1 := (hb3.cell (p := ⟨w1.heap.size, 1, none⟩) hs2).trans d1; have g2 := (hb3.cell (p := ⟨w1.heap.size, 2, none⟩) hs2).trans d2))
        have hb13 := hb12.trans (hb3.mono hb12.size)
        have hs3 := Nat.lt_of_lt_of_le hs2 hb3.size
        have HW3 : Hid (WholeAt w3 (.slice oo n oc) B (.slice aao an ac) l ∧ w3.rowIs bH 4 n (fun j => .bool (tn j))) := ⟨HW2.out.1.below hb3, row_later HW2.out.2 hb3⟩
        clear hrd2 HM3 HM4 HW HW2 d0 d1 d2
        go_loopw [56] (fun i wr => ∃ k : Nat, k ≤ an ∧ i = .int .i64 (k : Int) ∧ Hid (∀ p, p < n → lookB (l.getD p (0, 0)).1 = true → (aheadTo l p).length < k → tn p = cm p) ∧ Hid (Below w3.heap.size w3 wr)) (fun i _ => an - (intOf i).toNat)
        case atStart => exact ⟨0, Nat.zero_le _, rfl, fun p _ _ h => absurd h (Nat.not_lt_zero _), Below.refl _ _⟩
        case round =>
          obtain ⟨k, hk, rfl, HAll, HBel⟩ := hrel
          have hbel := HBel.out
          by_cases hlt : k < an
          · have hWr := HW3.out.1.below hbel
            obtain ⟨p, ⟨ab, aoff, rfl, habl, hca⟩, hpn, hpk, hpi⟩ := HG.out wr B aao ac k hWr hlt
            have hco := HCo.out
            have HSt : Hid (∀ w', Below wr.heap.size wr w' → w'.cell? ⟨w1.heap.size, 0, none⟩ = some (.slice oo n oc) ∧ w'.cell? ⟨w1.heap.size, 1, none⟩ = some (.slice (some ⟨B, 0, none⟩) n n) ∧ w'.cell? ⟨w1.heap.size, 2, none⟩ = some (.slice (some ⟨ab, aoff, none⟩) an ac) ∧ w'.cell? ⟨bH, p, none⟩ = some (.bool (tn p)) ∧ Below wr.heap.size wr w') := fun w' hb => by
              have hbw := hbel.trans (hb.mono hbel.size)
              have hr := row_later HW3.out.2 hbw
              exact ⟨(hbw.cell (p := ⟨w1.heap.size, 0, none⟩) hs3).trans g0, (hbw.cell (p := ⟨w1.heap.size, 1, none⟩) hs3).trans g1, (hbw.cell (p := ⟨w1.heap.size, 2, none⟩) hs3).trans g2, hr.cell hpn, hb⟩
            have hcc := fun w' (hb : Below wr.heap.size wr w') => HCo.out w' B bH bN _ ac p (hWr.below hb) (row_later (row_later HW3.out.2 hbel) hb) (row_later (row_later HN3.out hbel) hb) hpn hpk
            have hS := HSt.out
            have hB0 : Below wr.heap.size wr wr := Below.refl _ _
            have HNext : Hid (tn p = cm p → ∀ q, q < n → lookB (l.getD q (0, 0)).1 = true → (aheadTo l q).length < k + 1 → tn q = cm q) := fun he q hq hqk hql => by
              by_cases h : (aheadTo l q).length < k
              · exact HAll.out q hq hqk h
              · have hqp : q = p := HUq.out q p hqk hpk (by omega)
                rw [hqp]; exact he
            have HBad : Hid (tn p ≠ cm p → fr = false) := fun h => HNot.out fun hf => h (HFol.out.1 hf p hpn hpk)
            have hp0 : (0 : Int) ≤ (p : Int) := Int.natCast_nonneg _
            have hpI : (p : Int) < (n : Int) := by omega
            generalize tn p = tv at *
            generalize cm p = cv at *
            clear HG HCo HAll HNot HYes HFol HLt HUq hco HSt hWr hpk hpi
            by_cases htv : tv = cv
            · have HNx := (show Hid _ from HNext.out htv)
              subst htv
              clear HNext HBad
              go_wp2_with fail
              go_region_held3 (fun w' => w'.cell? ⟨w1.heap.size, 0, none⟩ = some (.slice oo n oc) ∧ w'.cell? ⟨w1.heap.size, 1, none⟩ = some (.slice (some ⟨B, 0, none⟩) n n) ∧ w'.cell? ⟨w1.heap.size, 2, none⟩ = some (.slice (some ⟨ab, aoff, none⟩) an ac) ∧ w'.cell? ⟨bH, p, none⟩ = some (.bool tv) ∧ Below wr.heap.size wr w')
                (exact hS _ (by first | exact hB0 | exact hB0.drew | exact hB0.drew.trans hb4))
                (first | (go_at_call 16; refine (hcc _ hB0.drew).mono ?_; rintro e w4 ⟨rfl, hb4⟩))
              go_wp2_with fail
              have hbf := hbel.trans ((hB0.drew.trans hb4).mono hbel.size)
              exact ⟨⟨k + 1, hlt, by first | rfl | simp, HNx.out, hbf⟩, by simp [intOf]; omega⟩
            · have HF := (show Hid _ from HBad.out htv)
              clear HNext HBad
              cases tv <;> cases cv
              · exact absurd rfl htv
              · go_wp2_with fail
                go_region_held3 (fun w' => w'.cell? ⟨w1.heap.size, 0, none⟩ = some (.slice oo n oc) ∧ w'.cell? ⟨w1.heap.size, 1, none⟩ = some (.slice (some ⟨B, 0, none⟩) n n) ∧ w'.cell? ⟨w1.heap.size, 2, none⟩ = some (.slice (some ⟨ab, aoff, none⟩) an ac) ∧ w'.cell? ⟨bH, p, none⟩ = some (.bool false) ∧ Below wr.heap.size wr w')
                  (exact hS _ (by first | exact hB0 | exact hB0.drew | exact hB0.drew.trans hb4))
                  (first | (go_at_call 16; refine (hcc _ hB0.drew).mono ?_; rintro e w4 ⟨rfl, hb4⟩))
                go_wp2_with fail
                have hbf := hbel.trans ((hB0.drew.trans hb4).mono hbel.size)
                go_ret2
                rw [HF.out]
                exact ⟨rfl, hb13.trans (hbf.mono hb13.size)⟩
              · go_wp2_with fail
                go_region_held3 (fun w' => w'.cell? ⟨w1.heap.size, 0, none⟩ = some (.slice oo n oc) ∧ w'.cell? ⟨w1.heap.size, 1, none⟩ = some (.slice (some ⟨B, 0, none⟩) n n) ∧ w'.cell? ⟨w1.heap.size, 2, none⟩ = some (.slice (some ⟨ab, aoff, none⟩) an ac) ∧ w'.cell? ⟨bH, p, none⟩ = some (.bool true) ∧ Below wr.heap.size wr w')
                  (exact hS _ (by first | exact hB0 | exact hB0.drew | exact hB0.drew.trans hb4))
                  (first | (go_at_call 16; refine (hcc _ hB0.drew).mono ?_; rintro e w4 ⟨rfl, hb4⟩))
                go_wp2_with fail
                have hbf := hbel.trans ((hB0.drew.trans hb4).mono hbel.size)
                go_ret2
                rw [HF.out]
                exact ⟨rfl, hb13.trans (hbf.mono hb13.size)⟩
              · exact absurd rfl htv
          · obtain rfl : k = an := by omega
            have HFr : Hid (fr = true) := HYes.out (HFol.out.2 fun p hp hpk => HAll.out p hp hpk (HLt.out p hp hpk))
            clear HG HCo HAll HNot HYes HFol HLt HUq
            go_wp2_with fail
            go_ret2
            rw [HFr.out]
            exact ⟨rfl, hb13.trans (hbel.mono hb13.size)⟩
  · have hft : fcode l now claim next later = lcode now.length l := by unfold fcode; rw [if_neg (by simpa using hlen), tcode_bad hc, if_pos hc]
    rw [folR_bad (by rw [hft]; exact hc), hft]
    have hrd2 : Calls Tryd.prog 14 #[.slice oo l.length oc, .int .i64 (now.length : Int)] w fun e w' => Below w.heap.size w w' ∧ e = .returned (.tuple #[.agg #[.slice none 0 0, .slice none 0 0, .slice none 0 0], .int .i64 (lcode now.length l)]) := hrd.mono fun e w' ⟨h1, h2, _⟩ => ⟨h1, h2 hc⟩
    rw [← hlen]
    generalize lcode now.length l = x at *
    generalize now.length = ln at *
    generalize l.length = n at *
    clear hrd hT hV hL hX hft hlen
    go_enter Tryd.func9, Tryd.ntmps9
    go_wp2_with (go_at_call 14; refine hrd2.mono ?_; rintro e w1 ⟨hb1, rfl⟩)
    go_ret2
    exact ⟨rfl, by first | exact hb1 | exact hb1.alloc hb1.size _⟩

/-- THE CONTRACT OF logic.Follows. -/
theorem lfol_any (v nv xv : Value) (l : List (Int × Int)) (now next : List Bool) (claim later : Int) (w : World) (hB : 0 < w.heap.size) (hT : TabAt w) (hV : OpsV w v l) (hL : BoolsV w nv now) (hX : BoolsV w xv next) :
    Calls Tryd.prog 9 #[v, nv, .int .i64 claim, xv, .int .i64 later] w fun e w' => e = .returned (.tuple #[.bool (folR l now claim next later), .int .i64 (fcode l now claim next later)]) ∧ Below w.heap.size w w' := by
  obtain ⟨oo, oc, rfl, _⟩ := id hV
  obtain ⟨no, nc, rfl, _⟩ := id hL
  obtain ⟨xo, xc, rfl, _⟩ := id hX
  by_cases hlen : now.length = next.length
  · exact fol_main oo oc l no xo nc xc now next claim later w hB hT hV hL hX hlen
  · have hf : fcode l now claim next later = 1 := by unfold fcode; rw [if_pos hlen]
    rw [folR_bad (by rw [hf]; decide), hf]
    exact fol_len _ no xo _ nc _ xc claim later oo l.length oc rfl w hlen
end Go.Proofs.YtoeagklgfaoejaaDoor

/-
  Plain mathematics: what holds of a word is a line of claims: the truths with the claim of a moment are what holds at it.
-/
namespace Go.Proofs.YtoeagklgfaoejaaDoor
open Terms

theorem bit_clm (a : List Int) (h : Nat → Nat → Bool) (j : Nat) : ∀ n k, k < n → bitB (clmTo a h j n) k = h (a.getD k 0).toNat j := by
  intro n
  induction n with
  | zero => intro k hk; omega
  | succ n ih =>
    intro k hk
    obtain ⟨b0, b1⟩ := clmTo_bounds a h j n
    have hp : (0 : Int) < 2 ^ k := Int.pow_pos (by decide)
    by_cases e : k = n
    · subst e
      have e1 : clmTo a h j (k + 1) = clmTo a h j k + if h (a.getD k 0).toNat j = true then 2 ^ k else 0 := rfl
      by_cases hb : h (a.getD k 0).toNat j = true
      · rw [if_pos hb] at e1
        have : (clmTo a h j k + 2 ^ k) / 2 ^ k = 1 := by
          rw [show clmTo a h j k + 2 ^ k = clmTo a h j k + 1 * 2 ^ k by omega, Int.add_mul_ediv_right _ _ (by omega), Int.ediv_eq_zero_of_lt b0 b1]
          rfl
        rw [hb, e1]
        unfold bitB
        rw [this]; rfl
      · rw [if_neg hb, Int.add_zero] at e1
        rw [e1, Bool.eq_false_iff.2 hb]
        unfold bitB
        rw [Int.ediv_eq_zero_of_lt b0 b1]; rfl
    · have hkn : k < n := by omega
      rw [← ih k hkn]
      have e1 : clmTo a h j (n + 1) = clmTo a h j n + if h (a.getD n 0).toNat j = true then 2 ^ n else 0 := rfl
      by_cases hb : h (a.getD n 0).toNat j = true
      · rw [if_pos hb] at e1
        obtain ⟨d, hd⟩ : ∃ d, n = k + 1 + d := ⟨n - (k + 1), by omega⟩
        have e2 : (2 : Int) ^ n = (2 * 2 ^ d) * 2 ^ k := by rw [hd, Int.pow_add, Int.pow_succ]; simp [Int.mul_comm, Int.mul_left_comm, Int.mul_assoc]
        have e3 : clmTo a h j (n + 1) / 2 ^ k % 2 = clmTo a h j n / 2 ^ k % 2 := by
          rw [e1, e2, Int.add_mul_ediv_right _ _ (by omega)]
          omega
        unfold bitB
        rw [e3]
      · rw [if_neg hb, Int.add_zero] at e1
        rw [e1]

/-- the op at a place is the head of the term that begins there. -/
theorem op_at {T : Tm} {l : List (Int × Int)} (ho : T.ops = l) {q : Nat} (hq : q < T.size) : l.getD q (0, 0) = ((T.sub q).kind, (T.sub q).val) := by
  obtain ⟨r, hr⟩ := Tm.sub_drop T q hq
  rw [ho] at hr
  have h0 : l.getD q (0, 0) = (l.drop q).getD 0 (0, 0) := by simp [List.getD_eq_getElem?_getD]
  rw [h0, hr, ← Tm.ops_head (T.sub q) (0, 0)]
  have hne := Tm.ops_ne (T.sub q)
  cases hx : (T.sub q).ops with
  | nil => exact absurd hx hne
  | cons x s => simp
theorem sub_one {T : Tm} {q : Nat} {k v : Int} {a : Tm} (hq : q < T.size) (e : T.sub q = .un k v a) : T.sub (q + 1) = a := by
  have := Tm.sub_sub T q 1 hq (by rw [e]; have := a.size_pos; simp [Tm.size]; omega)
  rw [this, e]
  exact Tm.sub_zero a
theorem sub_fst {T : Tm} {q : Nat} {k v : Int} {a b : Tm} (hq : q < T.size) (e : T.sub q = .bi k v a b) : T.sub (q + 1) = a := by
  have ha := a.size_pos
  have := Tm.sub_sub T q 1 hq (by rw [e]; simp [Tm.size]; omega)
  rw [this, e]
  show (if 0 < a.size then a.sub 0 else b.sub (0 - a.size)) = a
  rw [if_pos (by omega), Tm.sub_zero]
theorem sub_snd {T : Tm} (hw : T.Wf) {l : List (Int × Int)} (ho : T.ops = l) {q : Nat} {k v : Int} {a b : Tm} (hq : q < T.size) (e : T.sub q = .bi k v a b) : T.sub (sec l q) = b := by
  have ha := a.size_pos
  have hb := b.size_pos
  have hf := Tm.sub_fits T hq
  rw [e] at hf
  simp only [Tm.size] at hf
  have h1 := (Tm.end_at hw (q := q + 1) (by omega)).1
  rw [ho, sub_fst hq e] at h1
  have hs : sec l q = q + (1 + a.size) := by unfold sec; rw [h1]; omega
  rw [hs, Tm.sub_sub T q (1 + a.size) hq (by rw [e]; simp only [Tm.size]; omega), e, show 1 + a.size = a.size + 1 by omega]
  show (if a.size < a.size then a.sub a.size else b.sub (a.size - a.size)) = b
  rw [if_neg (by omega), Nat.sub_self, Tm.sub_zero]
/-- WHAT HOLDS IS TOLD BY THE CLAIM: with the claim of what holds at a moment, and its letter, the truths are what holds there. -/
theorem line_tru {T : Tm} (hw : T.Wf) {l : List (Int × Int)} (ho : T.ops = l) (hz : endsCode (l.map Prod.fst) = 0) (σ : Nat → Nat → Bool) (letter : List Bool) (i : Nat) (hl : ∀ v : Int, 0 ≤ v → letter.getD v.toNat false = σ i v.toNat) (hv : ∀ q, q < l.length → (l.getD q (0, 0)).1 = 13 → 0 ≤ (l.getD q (0, 0)).2) (h8 : ∀ q, q < l.length → 8 ≤ (l.getD q (0, 0)).1) :
    ∀ d p, l.length ≤ p + d → p < l.length → tru l letter (clmTo (aheadL l) (fun q => (T.sub q).hb σ) i (aheadL l).length) p = (T.sub p).hb σ i := by
  have hsz : T.size = l.length := by rw [← Tm.ops_length, ho]
  intro d
  induction d with
  | zero => intro p h1 h2; omega
  | succ d ih =>
    intro p h1 h2
    have hq : p < T.size := by omega
    have hop := op_at ho hq
    obtain ⟨q1, q2⟩ := part_in hz h2
    cases hb : lookB (l.getD p (0, 0)).1 with
    | true =>
      rw [tru_look h2 hb]
      have hlt : (aheadTo l p).length < (aheadL l).length := by
        have := aheadTo_mono l (p := p + 1) (n := l.length) (by omega)
        rw [aheadTo_yes hb, List.length_append] at this
        exact this
      rw [bit_clm _ _ _ _ _ hlt]
      obtain ⟨p', e1, e2, e3, e4⟩ := aheadTo_get l l.length (aheadTo l p).length hlt
      have e1' : (aheadL l).getD (aheadTo l p).length 0 = (p' : Int) := e1
      rw [e1']
      have : p' = p := by
        rcases Nat.lt_trichotomy p' p with h | h | h
        · have := aheadTo_mono l (p := p' + 1) (n := p) (by omega)
          rw [aheadTo_yes e3, List.length_append] at this
          simp at this; omega
        · exact h
        · have := aheadTo_mono l (p := p + 1) (n := p') (by omega)
          rw [aheadTo_yes hb, List.length_append] at this
          simp at this; omega
      rw [this]
      rfl
    | false =>
      rw [tru_mk h2 hb (fun h => (q2 h).1)]
      have hwf := Tm.sub_wf hw p
      rw [hop] at hb q1 q2 ⊢
      have hvp := hv p h2
      rw [hop] at hvp
      cases hT : T.sub p with
      | leaf k v =>
        rw [hT] at hb hvp hwf
        simp only [Tm.kind, Tm.val] at hb hvp ⊢
        unfold mkB
        by_cases k13 : k = 13
        · subst k13
          rw [if_pos rfl, Tm.hb_prop]
          exact hl v (hvp rfl)
        · by_cases k11 : k = 11
          · subst k11
            rw [Tm.hb_yes]; rfl
          · rw [Tm.hb_no _ _ _ k13 k11]
            have hpn : pn k = 0 := hwf.2
            have k8 : k ≠ 8 := fun e => by rw [e] at hpn; exact absurd hpn (by decide)
            have k9 : k ≠ 9 := fun e => by rw [e] at hpn; exact absurd hpn (by decide)
            have k10 : k ≠ 10 := fun e => by rw [e] at hpn; exact absurd hpn (by decide)
            simp [k13, k11, k8, k9, k10]
      | un k v a =>
        have hs1 := sub_one hq hT
        rw [hT] at hb hwf q1
        simp only [Tm.kind, Tm.val] at hb q1 ⊢
        have hpn : pn k = 1 := hwf.2.1
        have hok : okK k = true := hwf.1
        have hk : k = 10 := by
          have h14 : ¬ (14 ≤ k ∧ k ≤ 18) := by simpa [lookB] using hb
          unfold pn at hpn
          split at hpn
          · omega
          · split at hpn <;> omega
        subst hk
        rw [ih (p + 1) (by omega) (q1 (by rw [hpn]; exact Nat.le_refl _)), hs1, Tm.hb_not]
        rfl
      | bi k v a b =>
        have hs1 := sub_fst hq hT
        have hs2 := sub_snd hw ho hq hT
        have h8p := h8 p h2
        rw [hop, hT] at h8p
        rw [hT] at hb hwf q1 q2
        simp only [Tm.kind, Tm.val] at hb q1 q2 ⊢
        have hpn : pn k = 2 := hwf.2.1
        rw [ih (p + 1) (by omega) (q1 (by omega)), ih (sec l p) (by have := (q2 hpn).1; omega) (q2 hpn).2, hs1, hs2]
        simp only [Tm.kind] at h8p
        have hk : k = 8 ∨ k = 9 := by
          have h14 : ¬ (14 ≤ k ∧ k ≤ 18) := by simpa [lookB] using hb
          unfold pn at hpn
          split at hpn
          · omega
          · split at hpn <;> omega
        rcases hk with rfl | rfl
        · rw [Tm.hb_and]; rfl
        · rw [Tm.hb_or]; rfl
end Go.Proofs.YtoeagklgfaoejaaDoor

/-
  Plain mathematics: what holds follows on what holds, moment by moment, and in a loop nothing waits for ever.
-/
namespace Go.Proofs.YtoeagklgfaoejaaDoor
open Terms

theorem kind_cases {k : Int} (h : lookB k = true) : k = 14 ∨ k = 15 ∨ k = 16 ∨ k = 17 ∨ k = 18 := by
  have : 14 ≤ k ∧ k ≤ 18 := by simpa [lookB] using h
  omega
/-- a term that looks ahead: its parts. -/
theorem look_parts {T : Tm} (hw : T.Wf) {l : List (Int × Int)} (ho : T.ops = l) {p : Nat} (hp : p < l.length) (hb : lookB (l.getD p (0, 0)).1 = true) :
    (∃ k v a, (k = 14 ∨ k = 17 ∨ k = 18) ∧ (l.getD p (0, 0)).1 = k ∧ T.sub p = .un k v a ∧ T.sub (p + 1) = a) ∨ (∃ k v a b, (k = 15 ∨ k = 16) ∧ (l.getD p (0, 0)).1 = k ∧ T.sub p = .bi k v a b ∧ T.sub (p + 1) = a ∧ T.sub (sec l p) = b) := by
  have hsz : T.size = l.length := by rw [← Tm.ops_length, ho]
  have hq : p < T.size := by omega
  have hop := op_at ho hq
  have hwf := Tm.sub_wf hw p
  have hk := kind_cases hb
  rw [hop] at hk ⊢
  cases hT : T.sub p with
  | leaf k v =>
    rw [hT] at hk hwf
    have hpn : pn k = 0 := hwf.2
    simp only [Tm.kind] at hk
    exfalso
    rcases hk with rfl | rfl | rfl | rfl | rfl <;> exact absurd hpn (by decide)
  | un k v a =>
    have h1 := sub_one hq hT
    rw [hT] at hk hwf
    have hpn : pn k = 1 := hwf.2.1
    simp only [Tm.kind] at hk ⊢
    left
    refine ⟨k, v, a, ?_, rfl, rfl, h1⟩
    rcases hk with rfl | rfl | rfl | rfl | rfl
    · exact .inl rfl
    · exact absurd hpn (by decide)
    · exact absurd hpn (by decide)
    · exact .inr (.inl rfl)
    · exact .inr (.inr rfl)
  | bi k v a b =>
    have h1 := sub_fst hq hT
    have h2 := sub_snd hw ho hq hT
    rw [hT] at hk hwf
    have hpn : pn k = 2 := hwf.2.1
    simp only [Tm.kind] at hk ⊢
    right
    refine ⟨k, v, a, b, ?_, rfl, rfl, h1, h2⟩
    rcases hk with rfl | rfl | rfl | rfl | rfl
    · exact absurd hpn (by decide)
    · exact .inl rfl
    · exact .inr rfl
    · exact absurd hpn (by decide)
    · exact absurd hpn (by decide)
/-- WHAT HOLDS FOLLOWS ON WHAT HOLDS. -/
theorem line_come {T : Tm} (hw : T.Wf) {l : List (Int × Int)} (ho : T.ops = l) (σ : Nat → Nat → Bool) {p : Nat} (hp : p < l.length) (hb : lookB (l.getD p (0, 0)).1 = true) (i : Nat) :
    (T.sub p).hb σ i = comeB (l.getD p (0, 0)).1 ((T.sub (p + 1)).hb σ i) ((T.sub (sec l p)).hb σ i) ((T.sub p).hb σ (i + 1)) ((T.sub (p + 1)).hb σ (i + 1)) := by
  rcases look_parts hw ho hp hb with ⟨k, v, a, hk, e1, e2, e3⟩ | ⟨k, v, a, b, hk, e1, e2, e3, e4⟩
  · rw [e1, e2, e3]
    rcases hk with rfl | rfl | rfl
    · rw [Tm.hb_next]; rfl
    · rw [Tm.hb_fin, untB_step, ← Tm.hb_fin σ v]; simp [comeB]
    · rw [Tm.hb_glob, untB_step, ← Tm.hb_glob σ v]; simp [comeB]
  · rw [e1, e2, e3, e4]
    rcases hk with rfl | rfl
    · rw [Tm.hb_until, untB_step, ← Tm.hb_until σ v]; rfl
    · rw [Tm.hb_rel, untB_step, ← Tm.hb_rel σ v]
      show (_ || _) = (_ && (_ || _))
      cases Tm.hb σ a i <;> cases Tm.hb σ b i <;> simp
/-- IN A LOOP NOTHING WAITS FOR EVER. -/
theorem line_meets {T : Tm} (hw : T.Wf) {l : List (Int × Int)} (ho : T.ops = l) {ls : List (List Bool)} {s : Nat} (hs : s < ls.length) {p : Nat} (hp : p < l.length) (hb : lookB (l.getD p (0, 0)).1 = true) :
    ∃ i, s ≤ i ∧ i < ls.length ∧ waitB (l.getD p (0, 0)).1 ((T.sub p).hb (sig ls s) i) ((T.sub (p + 1)).hb (sig ls s) i) ((T.sub (sec l p)).hb (sig ls s) i) = false := by
  refine Classical.byContradiction fun hno => ?_
  have hall : ∀ i, s ≤ i → waitB (l.getD p (0, 0)).1 ((T.sub p).hb (sig ls s) i) ((T.sub (p + 1)).hb (sig ls s) i) ((T.sub (sec l p)).hb (sig ls s) i) = true := fun i hi => by
    have hm : s ≤ moAt s ls.length i ∧ moAt s ls.length i < ls.length := ⟨by unfold moAt; split <;> omega, moAt_lt hs⟩
    refine Classical.byContradiction fun hf => hno ⟨moAt s ls.length i, hm.1, hm.2, ?_⟩
    rw [hb_mo hs, hb_mo hs, hb_mo hs]
    exact Bool.eq_false_iff.2 hf
  rcases look_parts hw ho hp hb with ⟨k, v, a, hk, e1, e2, e3⟩ | ⟨k, v, a, b, hk, e1, e2, e3, e4⟩
  · rw [e1, e2, e3] at hall
    rcases hk with rfl | rfl | rfl
    · exact absurd (hall s (Nat.le_refl _)) (by simp [waitB])
    · have h1 : ∀ i, s ≤ i → Tm.hb (sig ls s) (.un 17 v a) i = true ∧ Tm.hb (sig ls s) a i = false := fun i hi => by simpa [waitB] using hall i hi
      have h0 := (h1 s (Nat.le_refl _)).1
      rw [Tm.hb_fin, untB_iff] at h0
      rcases h0 with ⟨j, hj, hu, _⟩ | ⟨hd, _⟩
      · rw [(h1 j hj).2] at hu; cases hu
      · cases hd
    · have h1 : ∀ i, s ≤ i → Tm.hb (sig ls s) (.un 18 v a) i = false ∧ Tm.hb (sig ls s) a i = true := fun i hi => by simpa [waitB] using hall i hi
      have h0 := (h1 s (Nat.le_refl _)).1
      have : Tm.hb (sig ls s) (.un 18 v a) s = true := by
        rw [Tm.hb_glob, untB_iff]
        exact .inr ⟨rfl, fun m hm => (h1 m hm).2⟩
      rw [this] at h0; cases h0
  · rw [e1, e2, e3, e4] at hall
    rcases hk with rfl | rfl
    · have h1 : ∀ i, s ≤ i → Tm.hb (sig ls s) (.bi 15 v a b) i = true ∧ Tm.hb (sig ls s) b i = false := fun i hi => by simpa [waitB] using hall i hi
      have h0 := (h1 s (Nat.le_refl _)).1
      rw [Tm.hb_until, untB_iff] at h0
      rcases h0 with ⟨j, hj, hu, _⟩ | ⟨hd, _⟩
      · rw [(h1 j hj).2] at hu; cases hu
      · cases hd
    · have h1 : ∀ i, s ≤ i → Tm.hb (sig ls s) (.bi 16 v a b) i = false ∧ Tm.hb (sig ls s) b i = true := fun i hi => by simpa [waitB] using hall i hi
      have h0 := (h1 s (Nat.le_refl _)).1
      have : Tm.hb (sig ls s) (.bi 16 v a b) s = true := by
        rw [Tm.hb_rel, untB_iff]
        exact .inr ⟨rfl, fun m hm => (h1 m hm).2⟩
      rw [this] at h0; cases h0
end Go.Proofs.YtoeagklgfaoejaaDoor

/-
  Plain mathematics: there is no other line of claims in which nothing waits for ever.
-/
namespace Go.Proofs.YtoeagklgfaoejaaDoor
open Terms

theorem const_from {t : Nat → Bool} {i j : Nat} (h : ∀ m, i ≤ m → m < j → t m = t (m + 1)) : ∀ m, i ≤ m → m ≤ j → t i = t m := by
  intro m
  induction m with
  | zero => intro h1 _; rw [Nat.le_zero.1 h1]
  | succ m ih =>
    intro h1 h2
    by_cases e : i = m + 1
    · rw [e]
    · rw [ih (by omega) (by omega), h m (by omega) (by omega)]
/-- what keeps an until's law is the until, or waits for ever. -/
theorem unt_unique {u v t : Nat → Bool} (d : Bool) (hst : ∀ i, t i = (u i || (v i && t (i + 1)))) (i : Nat) : t i = untB u v d i ∨ ∀ m, i ≤ m → u m = false ∧ v m = true ∧ t m = !d := by
  by_cases hex : ∃ j, i ≤ j ∧ (u j = true ∨ v j = false)
  · left
    obtain ⟨j0, h0, h1⟩ := hex
    obtain ⟨j, hj, hp, hless⟩ := Tm.least (P := fun j => u j = true ∨ v j = false) i j0 h0 h1
    have hmid : ∀ m, i ≤ m → m < j → u m = false ∧ v m = true := fun m a b => by
      have := hless m a b
      constructor
      · exact Bool.eq_false_iff.2 fun e => this (.inl e)
      · exact Classical.byContradiction fun e => this (.inr (Bool.eq_false_iff.2 e))
    have h1 := const_from (t := t) (i := i) (j := j) (fun m a b => by have := hmid m a b; rw [hst m, this.1, this.2]; simp) j hj (Nat.le_refl _)
    have h2 := const_from (t := untB u v d) (i := i) (j := j) (fun m a b => by have := hmid m a b; rw [untB_step u v d m, this.1, this.2]; simp) j hj (Nat.le_refl _)
    rw [h1, h2, hst j, untB_step]
    rcases hp with h | h
    · rw [h]; simp
    · rw [h]; simp
  · have hall : ∀ m, i ≤ m → u m = false ∧ v m = true := fun m hm => by
      constructor
      · exact Bool.eq_false_iff.2 fun e => hex ⟨m, hm, .inl e⟩
      · exact Classical.byContradiction fun e => hex ⟨m, hm, .inr (Bool.eq_false_iff.2 e)⟩
    have hc : ∀ m, i ≤ m → t i = t m := fun m hm => const_from (t := t) (i := i) (j := m) (fun k a _ => by have := hall k a; rw [hst k, this.1, this.2]; simp) m hm (Nat.le_refl _)
    by_cases e : t i = d
    · left
      rw [e, unt_stuck (u := u) (v := v) (d := d) hall]
    · right
      intro m hm
      refine ⟨(hall m hm).1, (hall m hm).2, ?_⟩
      rw [← hc m hm]
      generalize t i = x at e
      cases d <;> cases x <;> first | rfl | exact absurd rfl e

/-- A LINE OF TRUTHS THAT FOLLOW ONE ANOTHER, in whose loop nothing waits for ever, is what holds. -/
theorem line_only {T : Tm} (hw : T.Wf) {l : List (Int × Int)} (ho : T.ops = l) (hz : endsCode (l.map Prod.fst) = 0) {ls : List (List Bool)} {s : Nat} (hs : s < ls.length) (t : Nat → Nat → Bool)
    (hper : ∀ i p, t (moAt s ls.length i) p = t i p)
    (hmk : ∀ i p, p < l.length → lookB (l.getD p (0, 0)).1 = false → (1 ≤ pn (l.getD p (0, 0)).1 → t i (p + 1) = (T.sub (p + 1)).hb (sig ls s) i) → (pn (l.getD p (0, 0)).1 = 2 → t i (sec l p) = (T.sub (sec l p)).hb (sig ls s) i) → t i p = (T.sub p).hb (sig ls s) i)
    (hfol : ∀ i p, p < l.length → lookB (l.getD p (0, 0)).1 = true → t i p = comeB (l.getD p (0, 0)).1 (t i (p + 1)) (t i (sec l p)) (t (i + 1) p) (t (i + 1) (p + 1)))
    (hmet : ∀ p, p < l.length → lookB (l.getD p (0, 0)).1 = true → ∃ i, s ≤ i ∧ i < ls.length ∧ waitB (l.getD p (0, 0)).1 (t i p) (t i (p + 1)) (t i (sec l p)) = false) :
    ∀ d p, l.length ≤ p + d → p < l.length → ∀ i, t i p = (T.sub p).hb (sig ls s) i := by
  intro d
  induction d with
  | zero => intro p h1 h2; omega
  | succ d ih =>
    intro p h1 h2 i
    obtain ⟨q1, q2⟩ := part_in hz h2
    cases hb : lookB (l.getD p (0, 0)).1 with
    | false => exact hmk i p h2 hb (fun h => ih (p + 1) (by omega) (q1 h) i) (fun h => ih (sec l p) (by have := (q2 h).1; omega) (q2 h).2 i)
    | true =>
      have hnw : ∀ c, (∀ m, c ≤ m → waitB (l.getD p (0, 0)).1 (t m p) (t m (p + 1)) (t m (sec l p)) = true) → False := fun c hall => by
        obtain ⟨i0, a1, a2, a3⟩ := hmet p h2 hb
        have hj : moAt s ls.length (i0 + c * (ls.length - s)) = i0 := by
          unfold moAt
          split
          · rename_i hlt
            have : c * (ls.length - s) = 0 := by
              rcases Nat.eq_zero_or_pos c with h | h
              · rw [h, Nat.zero_mul]
              · have : ls.length - s ≤ c * (ls.length - s) := Nat.le_mul_of_pos_left _ h
                omega
            omega
          · rw [show i0 + c * (ls.length - s) - s = (i0 - s) + c * (ls.length - s) by omega, Nat.add_mul_mod_self_right, Nat.mod_eq_of_lt (by omega)]
            omega
        have hle : c ≤ i0 + c * (ls.length - s) := by
          have : c * 1 ≤ c * (ls.length - s) := Nat.mul_le_mul_left _ (by omega)
          omega
        have := hall _ hle
        rw [← hper (i0 + c * (ls.length - s)) p, ← hper (i0 + c * (ls.length - s)) (p + 1), ← hper (i0 + c * (ls.length - s)) (sec l p), hj, a3] at this
        cases this
      rcases look_parts hw ho h2 hb with ⟨k, v, a, hk, e1, e2, e3⟩ | ⟨k, v, a, b, hk, e1, e2, e3, e4⟩
      · have hp1 : p + 1 < l.length := q1 (by rw [e1]; rcases hk with rfl | rfl | rfl <;> decide)
        have ha : ∀ i, t i (p + 1) = Tm.hb (sig ls s) a i := fun i => by rw [ih (p + 1) (by omega) hp1 i, e3]
        have hf := fun i => hfol i p h2 hb
        rw [e1] at hnw
        rw [e2]
        rcases hk with rfl | rfl | rfl
        · have := hf i
          rw [e1] at this
          rw [this, Tm.hb_next, ← ha]
          rfl
        · rw [Tm.hb_fin]
          rcases unt_unique (u := Tm.hb (sig ls s) a) (v := fun _ => true) (t := fun i => t i p) false (fun i => by show t i p = _; rw [hf i, e1, ha]; rfl) i with h | h
          · exact h
          · exact (hnw i fun m hm => by have := h m hm; rw [ha, this.1, this.2.2]; rfl).elim
        · rw [Tm.hb_glob]
          rcases unt_unique (u := fun _ => false) (v := Tm.hb (sig ls s) a) (t := fun i => t i p) true (fun i => by show t i p = _; rw [hf i, e1, ha]; simp [comeB]) i with h | h
          · exact h
          · exact (hnw i fun m hm => by have := h m hm; rw [ha, this.2.1, this.2.2]; rfl).elim
      · have hp2 : pn (l.getD p (0, 0)).1 = 2 := by rw [e1]; rcases hk with rfl | rfl <;> rfl
        have hp1 : p + 1 < l.length := q1 (by omega)
        have ha : ∀ i, t i (p + 1) = Tm.hb (sig ls s) a i := fun i => by rw [ih (p + 1) (by omega) hp1 i, e3]
        have hbb : ∀ i, t i (sec l p) = Tm.hb (sig ls s) b i := fun i => by rw [ih (sec l p) (by have := (q2 hp2).1; omega) (q2 hp2).2 i, e4]
        have hf := fun i => hfol i p h2 hb
        rw [e1] at hnw
        rw [e2]
        rcases hk with rfl | rfl
        · rw [Tm.hb_until]
          rcases unt_unique (u := Tm.hb (sig ls s) b) (v := Tm.hb (sig ls s) a) (t := fun i => t i p) false (fun i => by show t i p = _; rw [hf i, e1, ha, hbb]; rfl) i with h | h
          · exact h
          · exact (hnw i fun m hm => by have := h m hm; rw [hbb, this.1, this.2.2]; cases t m (p + 1) <;> rfl).elim
        · rw [Tm.hb_rel]
          rcases unt_unique (u := fun j => Tm.hb (sig ls s) a j && Tm.hb (sig ls s) b j) (v := Tm.hb (sig ls s) b) (t := fun i => t i p) true (fun i => by show t i p = _; rw [hf i, e1, ha, hbb]; show (_ && (_ || _)) = (_ || _); cases Tm.hb (sig ls s) a i <;> cases Tm.hb (sig ls s) b i <;> simp) i with h | h
          · exact h
          · exact (hnw i fun m hm => by have := h m hm; rw [hbb, this.2.1, this.2.2]; cases t m (p + 1) <;> rfl).elim
end Go.Proofs.YtoeagklgfaoejaaDoor

/-
  Plain mathematics: claims that follow one another, and in whose loop nothing waits for ever, are those of what holds.
-/
namespace Go.Proofs.YtoeagklgfaoejaaDoor
open Terms

theorem mk_hb {T : Tm} (hw : T.Wf) {l : List (Int × Int)} (ho : T.ops = l) (σ : Nat → Nat → Bool) (letter : List Bool) (i : Nat) (hl : ∀ v : Int, 0 ≤ v → letter.getD v.toNat false = σ i v.toNat) (hv : ∀ q, q < l.length → (l.getD q (0, 0)).1 = 13 → 0 ≤ (l.getD q (0, 0)).2) (h8 : ∀ q, q < l.length → 8 ≤ (l.getD q (0, 0)).1) {p : Nat} (h2 : p < l.length) (hb : lookB (l.getD p (0, 0)).1 = false) {x y : Bool} (hx1 : 1 ≤ pn (l.getD p (0, 0)).1 → x = (T.sub (p + 1)).hb σ i) (hx2 : pn (l.getD p (0, 0)).1 = 2 → y = (T.sub (sec l p)).hb σ i) : mkB (l.getD p (0, 0)) letter x y = (T.sub p).hb σ i := by
  have hsz : T.size = l.length := by rw [← Tm.ops_length, ho]
  have hq : p < T.size := by omega
  have hop := op_at ho hq
  have hwf := Tm.sub_wf hw p
  rw [hop] at hb hx1 hx2 ⊢
  have hvp := hv p h2
  rw [hop] at hvp
  cases hT : T.sub p with
  | leaf k v =>
    rw [hT] at hb hvp hwf
    simp only [Tm.kind, Tm.val] at hb hvp ⊢
    unfold mkB
    by_cases k13 : k = 13
    · subst k13
      rw [if_pos rfl, Tm.hb_prop]
      exact hl v (hvp rfl)
    · by_cases k11 : k = 11
      · subst k11
        rw [Tm.hb_yes]; rfl
      · rw [Tm.hb_no _ _ _ k13 k11]
        have hpn : pn k = 0 := hwf.2
        have k8 : k ≠ 8 := fun e => by rw [e] at hpn; exact absurd hpn (by decide)
        have k9 : k ≠ 9 := fun e => by rw [e] at hpn; exact absurd hpn (by decide)
        have k10 : k ≠ 10 := fun e => by rw [e] at hpn; exact absurd hpn (by decide)
        simp [k13, k11, k8, k9, k10]
  | un k v a =>
    have hs1 := sub_one hq hT
    rw [hT] at hb hwf hx1
    simp only [Tm.kind, Tm.val] at hb hx1 ⊢
    have hpn : pn k = 1 := hwf.2.1
    have hok : okK k = true := hwf.1
    have hk : k = 10 := by
      have h14 : ¬ (14 ≤ k ∧ k ≤ 18) := by simpa [lookB] using hb
      unfold pn at hpn
      split at hpn
      · omega
      · split at hpn <;> omega
    subst hk
    rw [hx1 (by rw [hpn]; exact Nat.le_refl _), hs1, Tm.hb_not]
    rfl
  | bi k v a b =>
    have hs1 := sub_fst hq hT
    have hs2 := sub_snd hw ho hq hT
    have h8p := h8 p h2
    rw [hop, hT] at h8p
    rw [hT] at hb hwf hx1 hx2
    simp only [Tm.kind, Tm.val] at hb hx1 hx2 ⊢
    have hpn : pn k = 2 := hwf.2.1
    rw [hx1 (by omega), hx2 hpn, hs1, hs2]
    simp only [Tm.kind] at h8p
    have hk : k = 8 ∨ k = 9 := by
      have h14 : ¬ (14 ≤ k ∧ k ≤ 18) := by simpa [lookB] using hb
      unfold pn at hpn
      split at hpn
      · omega
      · split at hpn <;> omega
    rcases hk with rfl | rfl
    · rw [Tm.hb_and]; rfl
    · rw [Tm.hb_or]; rfl

theorem bits_eq : ∀ (n : Nat) (x y : Int), 0 ≤ x → x < 2 ^ n → 0 ≤ y → y < 2 ^ n → (∀ k, k < n → bitB x k = bitB y k) → x = y := by
  intro n
  induction n with
  | zero => intro x y a b c d _; simp at b d; omega
  | succ n ih =>
    intro x y a b c d h
    rw [Int.pow_succ] at b d
    have h0 : bitB x 0 = bitB y 0 := h 0 (by omega)
    have e0 : x % 2 = y % 2 := by
      unfold bitB at h0
      simp only [Int.pow_zero, Int.ediv_one] at h0
      have hx : x % 2 = 0 ∨ x % 2 = 1 := by omega
      have hy : y % 2 = 0 ∨ y % 2 = 1 := by omega
      rcases hx with hx | hx <;> rcases hy with hy | hy
      · rw [hx, hy]
      · rw [hx, hy] at h0; simp at h0
      · rw [hx, hy] at h0; simp at h0
      · rw [hx, hy]
    have hh : x / 2 = y / 2 := ih (x / 2) (y / 2) (by omega) (by omega) (by omega) (by omega) fun k hk => by
      have := h (k + 1) (by omega)
      unfold bitB at this ⊢
      rw [Int.pow_succ, Int.mul_comm, ← Int.ediv_ediv_of_nonneg (by decide), ← Int.ediv_ediv_of_nonneg (by decide)] at this
      exact this
    omega
/-- THERE IS NO OTHER SUCH LINE. -/
theorem claims_only {T : Tm} (hw : T.Wf) {l : List (Int × Int)} (ho : T.ops = l) (hz : endsCode (l.map Prod.fst) = 0) (hv : ∀ q, q < l.length → (l.getD q (0, 0)).1 = 13 → 0 ≤ (l.getD q (0, 0)).2) (h8 : ∀ q, q < l.length → 8 ≤ (l.getD q (0, 0)).1) {ls : List (List Bool)} {s : Nat} (hs : s < ls.length) (mine : Nat → Int)
    (hm : ∀ i, i < ls.length → 0 ≤ mine i ∧ mine i < 2 ^ (aheadL l).length)
    (hfol : ∀ i, i < ls.length → ∀ p, p < l.length → lookB (l.getD p (0, 0)).1 = true → tru l (ls.getD i []) (mine i) p = comeB (l.getD p (0, 0)).1 (tru l (ls.getD i []) (mine i) (p + 1)) (tru l (ls.getD i []) (mine i) (sec l p)) (tru l (ls.getD (moAt s ls.length (i + 1)) []) (mine (moAt s ls.length (i + 1))) p) (tru l (ls.getD (moAt s ls.length (i + 1)) []) (mine (moAt s ls.length (i + 1))) (p + 1)))
    (hmet : ∀ p, p < l.length → lookB (l.getD p (0, 0)).1 = true → ∃ i, s ≤ i ∧ i < ls.length ∧ waitB (l.getD p (0, 0)).1 (tru l (ls.getD i []) (mine i) p) (tru l (ls.getD i []) (mine i) (p + 1)) (tru l (ls.getD i []) (mine i) (sec l p)) = false) :
    ∀ i, i < ls.length → mine i = clmTo (aheadL l) (fun q => (T.sub q).hb (sig ls s)) i (aheadL l).length := by
  have hmm : ∀ i, moAt s ls.length (moAt s ls.length i) = moAt s ls.length i := fun i => moAt_low (moAt_lt hs)
  have key := line_only hw ho hz hs (fun i p => tru l (ls.getD (moAt s ls.length i) []) (mine (moAt s ls.length i)) p)
    (fun i p => by simp only [hmm])
    (fun i p h2 hb hx1 hx2 => by
      obtain ⟨_, q2⟩ := part_in hz h2
      show tru _ _ _ _ = _
      rw [tru_mk h2 hb (fun h => (q2 h).1)]
      exact mk_hb hw ho (sig ls s) _ i (fun v _ => rfl) hv h8 h2 hb hx1 hx2)
    (fun i p h2 hb => by
      have := hfol (moAt s ls.length i) (moAt_lt hs) p h2 hb
      have e : moAt s ls.length (moAt s ls.length i + 1) = moAt s ls.length (i + 1) := by
        unfold moAt
        by_cases h : i < ls.length
        · rw [if_pos h]
        · rw [if_neg h, if_neg (show ¬ i + 1 < ls.length by omega)]
          have hL : 0 < ls.length - s := by omega
          have hr := Nat.mod_lt (i - s) hL
          have e1 : i + 1 - s = (i - s) + 1 := by omega
          rw [e1, ← Nat.mod_add_mod]
          by_cases h3 : s + (i - s) % (ls.length - s) + 1 < ls.length
          · rw [if_pos h3, Nat.mod_eq_of_lt (show (i - s) % (ls.length - s) + 1 < ls.length - s by omega)]; omega
          · rw [if_neg h3, show s + (i - s) % (ls.length - s) + 1 - s = (i - s) % (ls.length - s) + 1 by omega]
      rw [e] at this
      exact this)
    (fun p h2 hb => by
      obtain ⟨i, a1, a2, a3⟩ := hmet p h2 hb
      exact ⟨i, a1, a2, by simp only [moAt_low a2]; exact a3⟩)
  intro i hi
  obtain ⟨c0, c1⟩ := clmTo_bounds (aheadL l) (fun q => (T.sub q).hb (sig ls s)) i (aheadL l).length
  refine bits_eq _ _ _ (hm i hi).1 (hm i hi).2 c0 c1 fun k hk => ?_
  rw [bit_clm _ _ _ _ _ hk]
  obtain ⟨p, e1, e2, e3, e4⟩ := aheadTo_get l l.length k hk
  have e1' : (aheadL l).getD k 0 = (p : Int) := e1
  have := key l.length p (by omega) e2 i
  simp only [moAt_low hi] at this
  rw [tru_look e2 e3, e4] at this
  rw [this, e1']
  rfl
/-- the claims of what holds: their truths. -/
theorem claims_tru {T : Tm} (hw : T.Wf) {l : List (Int × Int)} (ho : T.ops = l) (hz : endsCode (l.map Prod.fst) = 0) (hv : ∀ q, q < l.length → (l.getD q (0, 0)).1 = 13 → 0 ≤ (l.getD q (0, 0)).2) (h8 : ∀ q, q < l.length → 8 ≤ (l.getD q (0, 0)).1) {ls : List (List Bool)} {s : Nat} {i : Nat} (hi : i < ls.length) {p : Nat} (hp : p < l.length) :
    tru l (ls.getD i []) (clmTo (aheadL l) (fun q => (T.sub q).hb (sig ls s)) i (aheadL l).length) p = (T.sub p).hb (sig ls s) i :=
  line_tru hw ho hz (sig ls s) _ i (fun v _ => by unfold sig; rw [moAt_low hi]) hv h8 l.length p (by omega) hp
/-- THEY FOLLOW ONE ANOTHER, and in the loop nothing waits for ever. -/
theorem claims_fit {T : Tm} (hw : T.Wf) {l : List (Int × Int)} (ho : T.ops = l) (hz : endsCode (l.map Prod.fst) = 0) (hv : ∀ q, q < l.length → (l.getD q (0, 0)).1 = 13 → 0 ≤ (l.getD q (0, 0)).2) (h8 : ∀ q, q < l.length → 8 ≤ (l.getD q (0, 0)).1) {ls : List (List Bool)} {s : Nat} (hs : s < ls.length) (mine : Nat → Int)
    (hm : ∀ i, i < ls.length → mine i = clmTo (aheadL l) (fun q => (T.sub q).hb (sig ls s)) i (aheadL l).length) :
    (∀ i, i < ls.length → ∀ p, p < l.length → lookB (l.getD p (0, 0)).1 = true → tru l (ls.getD i []) (mine i) p = comeB (l.getD p (0, 0)).1 (tru l (ls.getD i []) (mine i) (p + 1)) (tru l (ls.getD i []) (mine i) (sec l p)) (tru l (ls.getD (moAt s ls.length (i + 1)) []) (mine (moAt s ls.length (i + 1))) p) (tru l (ls.getD (moAt s ls.length (i + 1)) []) (mine (moAt s ls.length (i + 1))) (p + 1))) ∧
    ∀ p, p < l.length → lookB (l.getD p (0, 0)).1 = true → ∃ i, s ≤ i ∧ i < ls.length ∧ waitB (l.getD p (0, 0)).1 (tru l (ls.getD i []) (mine i) p) (tru l (ls.getD i []) (mine i) (p + 1)) (tru l (ls.getD i []) (mine i) (sec l p)) = false := by
  have two : ∀ p, p < l.length → lookB (l.getD p (0, 0)).1 = true → p + 1 < l.length ∧ ((l.getD p (0, 0)).1 = 15 ∨ (l.getD p (0, 0)).1 = 16 → sec l p < l.length) := fun p hp hb => by
    obtain ⟨q1, q2⟩ := part_in hz hp
    have hk := kind_cases hb
    generalize (l.getD p (0, 0)).1 = k at *
    refine ⟨q1 (by rcases hk with rfl | rfl | rfl | rfl | rfl <;> decide), fun h => (q2 (by rcases h with rfl | rfl <;> rfl)).2⟩
  have sec_free : ∀ k (x y y' z nx : Bool), lookB k = true → (k = 15 ∨ k = 16 → y = y') → comeB k x y z nx = comeB k x y' z nx := fun k x y y' z nx hb h => by
    rcases kind_cases hb with rfl | rfl | rfl | rfl | rfl
    · rfl
    · rw [h (.inl rfl)]
    · rw [h (.inr rfl)]
    · rfl
    · rfl
  have sec_free2 : ∀ k (a x y y' : Bool), lookB k = true → (k = 15 ∨ k = 16 → y = y') → waitB k a x y = waitB k a x y' := fun k a x y y' hb h => by
    rcases kind_cases hb with rfl | rfl | rfl | rfl | rfl
    · rfl
    · rw [h (.inl rfl)]
    · rw [h (.inr rfl)]
    · rfl
    · rfl
  refine ⟨fun i hi p hp hb => ?_, fun p hp hb => ?_⟩
  · obtain ⟨p1, p2⟩ := two p hp hb
    have hj := moAt_lt (s := s) (n := ls.length) (i := i + 1) hs
    rw [hm i hi, hm _ hj, claims_tru hw ho hz hv h8 hi hp, claims_tru hw ho hz hv h8 hi p1, claims_tru hw ho hz hv h8 hj hp, claims_tru hw ho hz hv h8 hj p1, hb_mo hs, hb_mo hs]
    rw [sec_free _ _ _ ((T.sub (sec l p)).hb (sig ls s) i) _ _ hb (fun h => claims_tru hw ho hz hv h8 hi (p2 h))]
    exact line_come hw ho (sig ls s) hp hb i
  · obtain ⟨p1, p2⟩ := two p hp hb
    obtain ⟨i, a1, a2, a3⟩ := line_meets hw ho hs hp hb
    refine ⟨i, a1, a2, ?_⟩
    rw [hm i a2, claims_tru hw ho hz hv h8 a2 hp, claims_tru hw ho hz hv h8 a2 p1, sec_free2 _ _ _ _ ((T.sub (sec l p)).hb (sig ls s) i) hb (fun h => claims_tru hw ho hz hv h8 a2 (p2 h))]
    exact a3
end Go.Proofs.YtoeagklgfaoejaaDoor

/-
  What is met along a loop, as bits.
-/
namespace Go.Proofs.YtoeagklgfaoejaaDoor
open Go.ChangeShapes Go.WideShapes Go.ChangeAt Go.RowKit Go.Deep
open Terms

theorem or_bits0 : ∀ k, k < 4 → ∀ a, a < 16 → ∀ b, b < 16 → bitB (bits BinOp.or IntKind.i64 ((a : Nat) : Int) ((b : Nat) : Int)) k = (bitB ((a : Nat) : Int) k || bitB ((b : Nat) : Int) k) := by decide +kernel
theorem or_bound0 : ∀ m, m < 5 → ∀ a, a < 2 ^ m → ∀ b, b < 2 ^ m → 0 ≤ bits BinOp.or IntKind.i64 ((a : Nat) : Int) ((b : Nat) : Int) ∧ bits BinOp.or IntKind.i64 ((a : Nat) : Int) ((b : Nat) : Int) < 2 ^ m := by decide +kernel
theorem pow_nat (m : Nat) : ((2 ^ m : Nat) : Int) = 2 ^ m := by simp
theorem or_bound {m : Nat} (hm : m ≤ 4) {a b : Int} (ha : 0 ≤ a ∧ a < 2 ^ m) (hb : 0 ≤ b ∧ b < 2 ^ m) : 0 ≤ bits BinOp.or IntKind.i64 a b ∧ bits BinOp.or IntKind.i64 a b < 2 ^ m := by
  obtain ⟨x, rfl⟩ : ∃ x : Nat, a = x := ⟨a.toNat, by omega⟩
  obtain ⟨y, rfl⟩ : ∃ y : Nat, b = y := ⟨b.toNat, by omega⟩
  have := pow_nat m
  exact or_bound0 m (by omega) x (by omega) y (by omega)
theorem or_bits {m : Nat} (hm : m ≤ 4) {a b : Int} (ha : 0 ≤ a ∧ a < 2 ^ m) (hb : 0 ≤ b ∧ b < 2 ^ m) {k : Nat} (hk : k < m) : bitB (bits BinOp.or IntKind.i64 a b) k = (bitB a k || bitB b k) := by
  obtain ⟨x, rfl⟩ : ∃ x : Nat, a = x := ⟨a.toNat, by omega⟩
  obtain ⟨y, rfl⟩ : ∃ y : Nat, b = y := ⟨b.toNat, by omega⟩
  have := pow_nat m
  have h16 : (2 : Nat) ^ m ≤ 16 := by
    have hc : m = 0 ∨ m = 1 ∨ m = 2 ∨ m = 3 ∨ m = 4 := by omega
    rcases hc with rfl | rfl | rfl | rfl | rfl <;> decide
  exact or_bits0 k (by omega) x (by omega) y (by omega)
/-- what is met from a moment on, of the first k. -/
def metA (f : Nat → Int) (s : Nat) : Nat → Int
  | 0 => 0
  | k + 1 => if s ≤ k then bits BinOp.or IntKind.i64 (metA f s k) (f k) else metA f s k
theorem metA_bounds {m : Nat} (hm : m ≤ 4) {f : Nat → Int} (hf : ∀ i, 0 ≤ f i ∧ f i < 2 ^ m) (s : Nat) : ∀ k, 0 ≤ metA f s k ∧ metA f s k < 2 ^ m := by
  intro k
  induction k with
  | zero => exact ⟨by simp [metA], by simp only [metA]; exact Int.pow_pos (by decide)⟩
  | succ k ih =>
    simp only [metA]
    split
    · exact or_bound hm ih (hf k)
    · exact ih
theorem metA_bit {m : Nat} (hm : m ≤ 4) {f : Nat → Int} (hf : ∀ i, 0 ≤ f i ∧ f i < 2 ^ m) (s : Nat) {j : Nat} (hj : j < m) : ∀ k, bitB (metA f s k) j = true ↔ ∃ i, s ≤ i ∧ i < k ∧ bitB (f i) j = true := by
  intro k
  induction k with
  | zero => exact ⟨fun h => by simp [metA, bitB] at h, fun ⟨i, _, h, _⟩ => by omega⟩
  | succ k ih =>
    simp only [metA]
    split
    · rename_i hs
      rw [or_bits hm (metA_bounds hm hf s k) (hf k) hj, Bool.or_eq_true, ih]
      constructor
      · rintro (⟨i, h1, h2, h3⟩ | h)
        · exact ⟨i, h1, by omega, h3⟩
        · exact ⟨k, hs, by omega, h⟩
      · rintro ⟨i, h1, h2, h3⟩
        by_cases hi : i < k
        · exact .inl ⟨i, h1, hi, h3⟩
        · obtain rfl : i = k := by omega
          exact .inr h3
    · rename_i hs
      rw [ih]
      constructor
      · rintro ⟨i, h1, h2, h3⟩
        exact ⟨i, h1, by omega, h3⟩
      · rintro ⟨i, h1, h2, h3⟩
        exact ⟨i, h1, by omega, h3⟩
theorem met_clm (l : List (Int × Int)) (h : Nat → Bool) : ∀ k, metTo l h k = clmTo (aheadL l) (fun q _ => !waitAt l h q) 0 k := by
  intro k
  induction k with
  | zero => simp [metTo, clmTo]
  | succ k ih =>
    simp only [metTo, clmTo, ih]
    by_cases hw : waitAt l h ((aheadL l).getD k 0).toNat = true
    · rw [if_pos hw, if_neg (by rw [hw]; decide)]
    · rw [if_neg hw, if_pos (by rw [Bool.not_eq_true'] ; exact Bool.eq_false_iff.2 hw)]
theorem met_bit (l : List (Int × Int)) (h : Nat → Bool) {n j : Nat} (hj : j < n) : bitB (metTo l h n) j = !waitAt l h ((aheadL l).getD j 0).toNat := by
  rw [met_clm, bit_clm _ _ _ _ _ hj]
theorem full_bits0 : ∀ m, m < 5 → ∀ k, k < m → bitB ((2 : Int) ^ m - 1) k = true := by decide +kernel
theorem full_of_bits {m : Nat} (hm : m ≤ 4) {x : Int} (hx : 0 ≤ x ∧ x < 2 ^ m) (h : ∀ k, k < m → bitB x k = true) : x = 2 ^ m - 1 := by
  have h2 : (0 : Int) < 2 ^ m := Int.pow_pos (by decide)
  exact bits_eq m x (2 ^ m - 1) hx.1 hx.2 (by omega) (by omega) fun k hk => by rw [h k hk, full_bits0 m (by omega) k hk]
theorem bits_of_full {m : Nat} (hm : m ≤ 4) {x : Int} (h : x = 2 ^ m - 1) {k : Nat} (hk : k < m) : bitB x k = true := by rw [h]; exact full_bits0 m (by omega) k hk
end Go.Proofs.YtoeagklgfaoejaaDoor

/-
  The line of what holds, for the keeping laws on claims.
-/
namespace Go.Proofs.YtoeagklgfaoejaaDoor
open Go.ChangeShapes Go.WideShapes Go.ChangeAt Go.RowKit Go.Deep
open Terms

/-- the claim of what holds at a moment. -/
noncomputable def clmI (x : List (Int × Int)) (T : Tm) (ls : List (List Bool)) (s i : Nat) : Int := clmTo (aheadL x) (fun q => (T.sub q).hb (sig ls s)) i (aheadL x).length
theorem good_at {m : Nat} {x : List (Int × Int)} {T : Tm} (hF : FOk m x T) {q : Nat} (hq : q < x.length) : lopErr 3 (x.getD q (0, 0)) = 0 := hF.good _ (by rw [List.getD_eq_getElem?_getD, List.getElem?_eq_getElem hq, Option.getD_some]; exact List.getElem_mem hq)
theorem good_vals {m : Nat} {x : List (Int × Int)} {T : Tm} (hF : FOk m x T) : (∀ q, q < x.length → (x.getD q (0, 0)).1 = 13 → 0 ≤ (x.getD q (0, 0)).2) ∧ ∀ q, q < x.length → 8 ≤ (x.getD q (0, 0)).1 := by
  refine ⟨fun q hq h13 => ?_, fun q hq => ?_⟩
  · have := good_at hF hq
    generalize x.getD q (0, 0) = o at *
    unfold lopErr at this
    obtain ⟨k, v⟩ := o
    simp only at h13
    subst h13
    simp at this ⊢
    omega
  · have := good_at hF hq
    generalize x.getD q (0, 0) = o at *
    unfold lopErr at this
    obtain ⟨k, v⟩ := o
    simp only at this ⊢
    by_cases h : k < 8
    · exfalso
      revert this
      simp
      omega
    · omega
theorem all3 {ss ll : List (List Bool)} (hW : WOk ss ll) {i : Nat} (hi : i < (ss ++ ll).length) : ((ss ++ ll).getD i []).length = 3 := by
  have hm : (ss ++ ll).getD i [] ∈ ss ++ ll := by rw [List.getD_eq_getElem?_getD, List.getElem?_eq_getElem hi, Option.getD_some]; exact List.getElem_mem hi
  rcases List.mem_append.1 hm with h | h
  · exact hW.s3 _ h
  · exact hW.l3 _ h
theorem claim_code {m : Nat} {x : List (Int × Int)} {T : Tm} (hF : FOk m x T) (hl : x.length ≤ 60) (hm : m ≤ 6) {letter : List Bool} (h3 : letter.length = 3) {c : Int} (hc : 0 ≤ c ∧ c < 2 ^ (aheadL x).length) : tcode x letter c = 0 :=
  tcode_ok (by rw [h3]; exact hF.code hl hm) (by unfold ClaimNo; omega)
theorem line_fol {m : Nat} {x : List (Int × Int)} {T : Tm} (hF : FOk m x T) (hl : x.length ≤ 60) (hm : m ≤ 6) {ss ll : List (List Bool)} (hW : WOk ss ll) {i k : Nat} (hi : i < (ss ++ ll).length) (hk : k = moAt ss.length (ss ++ ll).length (i + 1)) :
    tcode x ((ss ++ ll).getD i []) (clmI x T (ss ++ ll) ss.length i) = 0 ∧ fcode x ((ss ++ ll).getD i []) (clmI x T (ss ++ ll) ss.length i) ((ss ++ ll).getD k []) (clmI x T (ss ++ ll) ss.length k) = 0 ∧ folR x ((ss ++ ll).getD i []) (clmI x T (ss ++ ll) ss.length i) ((ss ++ ll).getD k []) (clmI x T (ss ++ ll) ss.length k) = true := by
  have hs : ss.length < (ss ++ ll).length := by have := hW.one; simp; omega
  have hk2 : k < (ss ++ ll).length := by rw [hk]; exact moAt_lt hs
  have c1 := claim_code hF hl hm (all3 hW hi) (c := clmI x T (ss ++ ll) ss.length i) (clmTo_bounds _ _ _ _)
  have c2 := claim_code hF hl hm (all3 hW hk2) (c := clmI x T (ss ++ ll) ss.length k) (clmTo_bounds _ _ _ _)
  have hf : fcode x ((ss ++ ll).getD i []) (clmI x T (ss ++ ll) ss.length i) ((ss ++ ll).getD k []) (clmI x T (ss ++ ll) ss.length k) = 0 := by
    unfold fcode
    rw [if_neg (by rw [all3 hW hi, all3 hW hk2]; simp), if_neg (by rw [c1]; simp), c2]
  obtain ⟨hv, h8⟩ := good_vals hF
  have fit := (claims_fit hF.wf hF.ops (hF.ends hl) hv h8 hs (clmI x T (ss ++ ll) ss.length) (fun _ _ => rfl)).1 i hi
  rw [← hk] at fit
  exact ⟨c1, hf, folR_yes hf fun p hp hb => fit p hp hb⟩
theorem line_top {m : Nat} {x : List (Int × Int)} {T : Tm} (hF : FOk m x T) (hl : x.length ≤ 60) (hne : x ≠ []) {ss ll : List (List Bool)} {i : Nat} (hi : i < (ss ++ ll).length) : tru x ((ss ++ ll).getD i []) (clmI x T (ss ++ ll) ss.length i) 0 = T.hb (sig (ss ++ ll) ss.length) i := by
  obtain ⟨hv, h8⟩ := good_vals hF
  have := claims_tru hF.wf hF.ops (hF.ends hl) hv h8 hi (s := ss.length) (p := 0) (by cases x with | nil => exact absurd rfl hne | cons a b => simp)
  unfold clmI
  rw [this, Tm.sub_zero]
theorem line_met {m : Nat} {x : List (Int × Int)} {T : Tm} (hF : FOk m x T) (hl : x.length ≤ 60) (hm : m ≤ 4) {ss ll : List (List Bool)} (hW : WOk ss ll) :
    metA (fun i => metN x ((ss ++ ll).getD i []) (clmI x T (ss ++ ll) ss.length i)) ss.length (ss ++ ll).length = 2 ^ (aheadL x).length - 1 := by
  have hs : ss.length < (ss ++ ll).length := by have := hW.one; simp; omega
  have hml : (aheadL x).length ≤ 4 := by rw [hF.ahead]; exact hm
  have hb : ∀ i, 0 ≤ metN x ((ss ++ ll).getD i []) (clmI x T (ss ++ ll) ss.length i) ∧ metN x ((ss ++ ll).getD i []) (clmI x T (ss ++ ll) ss.length i) < 2 ^ (aheadL x).length := fun i => by
    unfold metN
    split
    · exact metTo_bounds _ _ _
    · exact ⟨by omega, Int.pow_pos (by decide)⟩
  refine full_of_bits hml (metA_bounds hml hb _ _) fun k hk => ?_
  rw [metA_bit hml hb _ hk]
  obtain ⟨hv, h8⟩ := good_vals hF
  obtain ⟨p, e1, e2, e3, e4⟩ := aheadTo_get x x.length k hk
  obtain ⟨i, h1, h2, h3⟩ := (claims_fit hF.wf hF.ops (hF.ends hl) hv h8 hs (clmI x T (ss ++ ll) ss.length) (fun _ _ => rfl)).2 p e2 e3
  refine ⟨i, h1, h2, ?_⟩
  have e1' : (aheadL x).getD k 0 = (p : Int) := e1
  unfold metN
  rw [if_pos (claim_code hF hl (by omega) (all3 hW h2) (c := clmI x T (ss ++ ll) ss.length i) (clmTo_bounds _ _ _ _)), met_bit _ _ hk, e1']
  unfold waitAt
  simp only [Int.toNat_natCast]
  rw [h3]
  rfl
end Go.Proofs.YtoeagklgfaoejaaDoor

/-
  Claims with a bit turned.
-/
namespace Go.Proofs.YtoeagklgfaoejaaDoor
open Go.ChangeShapes Go.WideShapes Go.ChangeAt Go.RowKit Go.Deep
open Terms

theorem xor_bits0 : ∀ b, b < 3 → ∀ a, a < 8 → bitB (bits BinOp.xor IntKind.i64 ((a : Nat) : Int) (2 ^ b)) b = !bitB ((a : Nat) : Int) b := by decide +kernel
theorem xor_bound0 : ∀ m, m < 4 → ∀ b, b < m → ∀ a, a < 2 ^ m → 0 ≤ bits BinOp.xor IntKind.i64 ((a : Nat) : Int) (2 ^ b) ∧ bits BinOp.xor IntKind.i64 ((a : Nat) : Int) (2 ^ b) < 2 ^ m := by decide +kernel
theorem xor_bound {m b : Nat} (hm : m ≤ 3) (hb : b < m) {a : Int} (ha : 0 ≤ a ∧ a < 2 ^ m) : 0 ≤ bits BinOp.xor IntKind.i64 a (2 ^ b) ∧ bits BinOp.xor IntKind.i64 a (2 ^ b) < 2 ^ m := by
  obtain ⟨x, rfl⟩ : ∃ x : Nat, a = x := ⟨a.toNat, by omega⟩
  have := pow_nat m
  exact xor_bound0 m (by omega) b hb x (by omega)
theorem xor_bit {m b : Nat} (hm : m ≤ 3) (hb : b < m) {a : Int} (ha : 0 ≤ a ∧ a < 2 ^ m) : bitB (bits BinOp.xor IntKind.i64 a (2 ^ b)) b = !bitB a b := by
  obtain ⟨x, rfl⟩ : ∃ x : Nat, a = x := ⟨a.toNat, by omega⟩
  have := pow_nat m
  have h8 : (2 : Nat) ^ m ≤ 8 := by
    have hc : m = 0 ∨ m = 1 ∨ m = 2 ∨ m = 3 := by omega
    rcases hc with rfl | rfl | rfl | rfl <;> decide
  exact xor_bits0 b (by omega) x (by omega)
theorem ahead_mono (l : List (Int × Int)) : ∀ (d n : Nat), ∃ r, aheadTo l (n + d) = aheadTo l n ++ r := by
  intro d
  induction d with
  | zero => intro n; exact ⟨[], by simp⟩
  | succ d ih =>
    intro n
    obtain ⟨r, h⟩ := ih n
    rw [show n + (d + 1) = (n + d) + 1 by omega]
    simp only [aheadTo]
    split
    · exact ⟨r ++ [((n + d : Nat) : Int)], by rw [h, List.append_assoc]⟩
    · exact ⟨r, by rw [List.append_nil]; exact h⟩
theorem ahead_at {l : List (Int × Int)} {p : Nat} (hp : p < l.length) (hb : lookB (l.getD p (0, 0)).1 = true) : (aheadTo l p).length < (aheadL l).length ∧ (aheadL l).getD (aheadTo l p).length 0 = (p : Int) := by
  obtain ⟨r, h⟩ := ahead_mono l (l.length - (p + 1)) (p + 1)
  rw [show p + 1 + (l.length - (p + 1)) = l.length by omega] at h
  have h1 : aheadTo l (p + 1) = aheadTo l p ++ [(p : Int)] := by simp only [aheadTo]; rw [if_pos hb]
  unfold aheadL
  rw [h, h1]
  refine ⟨by simp, ?_⟩
  simp [List.getD_eq_getElem?_getD]
/-- what is met everywhere in the loop. -/
theorem met_all {x : List (Int × Int)} {ls : List (List Bool)} {s : Nat} {mine : Nat → Int} (hml : (aheadL x).length ≤ 4) (ht : ∀ i, i < ls.length → tcode x (ls.getD i []) (mine i) = 0)
    (h : metA (fun i => metN x (ls.getD i []) (mine i)) s ls.length = 2 ^ (aheadL x).length - 1) : ∀ p, p < x.length → lookB (x.getD p (0, 0)).1 = true → ∃ i, s ≤ i ∧ i < ls.length ∧ waitB (x.getD p (0, 0)).1 (tru x (ls.getD i []) (mine i) p) (tru x (ls.getD i []) (mine i) (p + 1)) (tru x (ls.getD i []) (mine i) (sec x p)) = false := by
  intro p hp hb
  obtain ⟨h1, h2⟩ := ahead_at hp hb
  have hb' : ∀ i, 0 ≤ metN x (ls.getD i []) (mine i) ∧ metN x (ls.getD i []) (mine i) < 2 ^ (aheadL x).length := fun i => by
    unfold metN
    split
    · exact metTo_bounds _ _ _
    · exact ⟨by omega, Int.pow_pos (by decide)⟩
  have h3 := bits_of_full hml h h1
  rw [metA_bit hml hb' _ h1] at h3
  obtain ⟨i, a1, a2, a3⟩ := h3
  refine ⟨i, a1, a2, ?_⟩
  unfold metN at a3
  rw [if_pos (ht i a2), met_bit _ _ h1, h2] at a3
  unfold waitAt at a3
  simp only [Int.toNat_natCast] at a3
  simpa using a3
/-- a line with a bit turned all along breaks a law, or waits for ever. -/
theorem line_stuck {m : Nat} {x : List (Int × Int)} {T : Tm} (hF : FOk m x T) (hl : x.length ≤ 60) (hm : m ≤ 3) {ss ll : List (List Bool)} (hW : WOk ss ll) {b : Nat} (hb : b < m)
    (hfol : ∀ i, i < (ss ++ ll).length → folR x ((ss ++ ll).getD i []) (bits BinOp.xor IntKind.i64 (clmI x T (ss ++ ll) ss.length i) (2 ^ b)) ((ss ++ ll).getD (moAt ss.length (ss ++ ll).length (i + 1)) []) (bits BinOp.xor IntKind.i64 (clmI x T (ss ++ ll) ss.length (moAt ss.length (ss ++ ll).length (i + 1))) (2 ^ b)) = true) :
    metA (fun i => metN x ((ss ++ ll).getD i []) (bits BinOp.xor IntKind.i64 (clmI x T (ss ++ ll) ss.length i) (2 ^ b))) ss.length (ss ++ ll).length ≠ 2 ^ (aheadL x).length - 1 := by
  intro hfull
  have hs : ss.length < (ss ++ ll).length := by have := hW.one; simp; omega
  have ham := hF.ahead
  obtain ⟨hv, h8⟩ := good_vals hF
  have hbd : ∀ i, 0 ≤ bits BinOp.xor IntKind.i64 (clmI x T (ss ++ ll) ss.length i) (2 ^ b) ∧ bits BinOp.xor IntKind.i64 (clmI x T (ss ++ ll) ss.length i) (2 ^ b) < 2 ^ (aheadL x).length := fun i => xor_bound (by omega) (by omega) (clmTo_bounds _ _ _ _)
  have ht : ∀ i, i < (ss ++ ll).length → tcode x ((ss ++ ll).getD i []) (bits BinOp.xor IntKind.i64 (clmI x T (ss ++ ll) ss.length i) (2 ^ b)) = 0 := fun i hi => claim_code hF hl (by omega) (all3 hW hi) (hbd i)
  have key := claims_only hF.wf hF.ops (hF.ends hl) hv h8 hs (fun i => bits BinOp.xor IntKind.i64 (clmI x T (ss ++ ll) ss.length i) (2 ^ b)) (fun i _ => hbd i)
    (fun i hi p hp hb2 => by
      have h9 := hfol i hi
      have hF2 : Fol x (tru x ((ss ++ ll).getD i []) (bits BinOp.xor IntKind.i64 (clmI x T (ss ++ ll) ss.length i) (2 ^ b))) (tru x ((ss ++ ll).getD (moAt ss.length (ss ++ ll).length (i + 1)) []) (bits BinOp.xor IntKind.i64 (clmI x T (ss ++ ll) ss.length (moAt ss.length (ss ++ ll).length (i + 1))) (2 ^ b))) := by
        by_cases hn : Fol x (tru x ((ss ++ ll).getD i []) (bits BinOp.xor IntKind.i64 (clmI x T (ss ++ ll) ss.length i) (2 ^ b))) (tru x ((ss ++ ll).getD (moAt ss.length (ss ++ ll).length (i + 1)) []) (bits BinOp.xor IntKind.i64 (clmI x T (ss ++ ll) ss.length (moAt ss.length (ss ++ ll).length (i + 1))) (2 ^ b)))
        · exact hn
        · rw [folR_no hn] at h9; cases h9
      exact hF2 p hp hb2)
    (met_all (by omega) ht hfull)
  have h0 := key 0 (by omega)
  have h1 := xor_bit (m := (aheadL x).length) (by omega) (b := b) (by omega) (clmTo_bounds (aheadL x) (fun q => (T.sub q).hb (sig (ss ++ ll) ss.length)) 0 (aheadL x).length)
  have h2 : bits BinOp.xor IntKind.i64 (clmTo (aheadL x) (fun q => (T.sub q).hb (sig (ss ++ ll) ss.length)) 0 (aheadL x).length) (2 ^ b) = clmTo (aheadL x) (fun q => (T.sub q).hb (sig (ss ++ ll) ss.length)) 0 (aheadL x).length := h0
  rw [h2] at h1
  cases hq : bitB (clmTo (aheadL x) (fun q => (T.sub q).hb (sig (ss ++ ll) ss.length)) 0 (aheadL x).length) b <;> rw [hq] at h1 <;> cases h1
theorem stuck_code {m : Nat} {x : List (Int × Int)} {T : Tm} (hF : FOk m x T) (hl : x.length ≤ 60) (hm : m ≤ 3) {ss ll : List (List Bool)} (hW : WOk ss ll) {b : Nat} (hb : b < m) {i k : Nat} (hi : i < (ss ++ ll).length) (hk : k < (ss ++ ll).length) :
    tcode x ((ss ++ ll).getD i []) (bits BinOp.xor IntKind.i64 (clmI x T (ss ++ ll) ss.length i) (2 ^ b)) = 0 ∧ fcode x ((ss ++ ll).getD i []) (bits BinOp.xor IntKind.i64 (clmI x T (ss ++ ll) ss.length i) (2 ^ b)) ((ss ++ ll).getD k []) (bits BinOp.xor IntKind.i64 (clmI x T (ss ++ ll) ss.length k) (2 ^ b)) = 0 := by
  have ham := hF.ahead
  have hbd : ∀ i, 0 ≤ bits BinOp.xor IntKind.i64 (clmI x T (ss ++ ll) ss.length i) (2 ^ b) ∧ bits BinOp.xor IntKind.i64 (clmI x T (ss ++ ll) ss.length i) (2 ^ b) < 2 ^ (aheadL x).length := fun i => xor_bound (by omega) (by omega) (clmTo_bounds _ _ _ _)
  have c1 := claim_code hF hl (by omega) (all3 hW hi) (hbd i)
  have c2 := claim_code hF hl (by omega) (all3 hW hk) (hbd k)
  refine ⟨c1, ?_⟩
  unfold fcode
  rw [if_neg (by rw [all3 hW hi, all3 hW hk]; simp), if_neg (by rw [c1]; simp), c2]
end Go.Proofs.YtoeagklgfaoejaaDoor

/-
  Terms that are grown are trees of expressions, and what they make is small.
-/
namespace Go.Proofs.YtoeagklgfaoejaaDoor
open Terms

/-- three values from 0 to 8. -/
def EnvS (env : List Int) : Prop := env.length = 3 ∧ ∀ i, i < 3 → 0 ≤ env.getD i 0 ∧ env.getD i 0 ≤ 8
theorem EnvS.ok {env : List Int} (h : EnvS env) : Tm.EnvOk env := fun i hi => by
  have := h.2 i (by rw [h.1] at hi; exact hi)
  omega
def bnd (d : Nat) : Nat := if d = 0 then 8 else if d = 1 then 64 else 4096
theorem bnd_le (d : Nat) : 8 ≤ bnd d ∧ bnd d ≤ 4096 := by
  unfold bnd
  split
  · omega
  · split <;> omega
theorem bnd_up {d : Nat} (h : d + 1 ≤ 2) : bnd d * bnd d ≤ bnd (d + 1) ∧ bnd d + bnd d ≤ bnd (d + 1) := by
  have : d = 0 ∨ d = 1 := by omega
  rcases this with rfl | rfl <;> decide
theorem lid_small {m : Int} (h : m.natAbs ≤ 1000000) : Tm.lid m = some m := by
  unfold Tm.lid
  rw [if_pos (by omega)]
theorem bin_small {k x y : Int} {b c : Nat} (h3 : 3 ≤ k) (h5 : k ≤ 5) (hx : x.natAbs ≤ b) (hy : y.natAbs ≤ b) (h1 : b * b ≤ c) (h2 : b + b ≤ c) : (Tm.bin k x y).natAbs ≤ c := by
  have hk : k = 3 ∨ k = 4 ∨ k = 5 := by omega
  rcases hk with rfl | rfl | rfl
  · show (x + y).natAbs ≤ c; omega
  · show (x - y).natAbs ≤ c; omega
  · show (x * y).natAbs ≤ c
    rw [Int.natAbs_mul]
    exact Nat.le_trans (Nat.mul_le_mul hx hy) h1

/-- a tree that makes a number, small with small values. -/
structure NumTree (d : Nat) (t : List (Int × Int)) (T : Tm) : Prop where
  ops : T.ops = t
  good : T.Good 3
  typed : T.typed = true
  kind : Tm.mkT T.kind = false
  eval : ∀ env, EnvS env → ∃ x, T.eval env = some x ∧ x.natAbs ≤ bnd d
structure TruTree (t : List (Int × Int)) (T : Tm) : Prop where
  ops : T.ops = t
  good : T.Good 3
  typed : T.typed = true
  kind : Tm.mkT T.kind = true
  eval : ∀ env, EnvS env → ∃ x, T.eval env = some x ∧ (x = 0 ∨ x = 1)

theorem NumT.tree {d : Nat} {t : List (Int × Int)} (h : NumT 3 d t) : d ≤ 2 → ∃ T, NumTree d t T := by
  induction h with
  | var d v h0 h1 =>
    intro hd
    refine ⟨.leaf 2 v, rfl, .inr (.inl ⟨rfl, h0, by omega⟩), rfl, rfl, fun env he => ⟨_, rfl, ?_⟩⟩
    have := he.2 v.toNat (by omega)
    have := bnd_le d
    show (env.getD v.toNat 0).natAbs ≤ _
    omega
  | num d v h0 h1 =>
    intro hd
    refine ⟨.leaf 1 v, rfl, .inl ⟨rfl, by omega, by omega⟩, rfl, rfl, fun env he => ⟨_, rfl, ?_⟩⟩
    have := bnd_le d
    show v.natAbs ≤ _
    omega
  | bin d k a b h3 h5 _ _ iha ihb =>
    intro hd
    obtain ⟨A, a1, a2, a3, a4, a5⟩ := iha (by omega)
    obtain ⟨B, b1, b2, b3, b4, b5⟩ := ihb (by omega)
    have hk : k = 3 ∨ k = 4 ∨ k = 5 := by omega
    refine ⟨.bi k 0 A B, by simp [Tm.ops, a1, b1], ⟨h3, by omega, rfl, a2, b2⟩, ?_, ?_, fun env he => ?_⟩
    · have ht : Tm.tkT k = false := by rcases hk with rfl | rfl | rfl <;> rfl
      simp [Tm.typed, a3, b3, a4, b4, ht]
    · rcases hk with rfl | rfl | rfl <;> rfl
    · obtain ⟨x, x1, x2⟩ := a5 env he
      obtain ⟨y, y1, y2⟩ := b5 env he
      have hu := bnd_up hd
      have hs := bin_small h3 h5 x2 y2 hu.1 hu.2
      have := bnd_le (d + 1)
      refine ⟨_, ?_, hs⟩
      simp only [Tm.eval, x1, y1]
      exact lid_small (by omega)

theorem bin_lid {k x y : Int} (h : 6 ≤ k) : ∃ z, Tm.lid (Tm.bin k x y) = some z ∧ (z = 0 ∨ z = 1) := by
  have hb := Tm.bin_truth (x := x) (y := y) h
  exact ⟨_, lid_small (by omega), hb⟩
theorem NumTree.cmp {d e : Nat} {a b : List (Int × Int)} {A B : Tm} {k : Int} (h6 : 6 ≤ k) (h7 : k ≤ 7) (ha : NumTree d a A) (hb : NumTree e b B) : TruTree ((k, 0) :: (a ++ b)) (.bi k 0 A B) := by
  obtain ⟨a1, a2, a3, a4, a5⟩ := ha
  obtain ⟨b1, b2, b3, b4, b5⟩ := hb
  have hk : k = 6 ∨ k = 7 := by omega
  refine ⟨by simp [Tm.ops, a1, b1], ⟨by omega, by omega, rfl, a2, b2⟩, ?_, ?_, fun env he => ?_⟩
  · have ht : Tm.tkT k = false := by rcases hk with rfl | rfl <;> rfl
    simp [Tm.typed, a3, b3, a4, b4, ht]
  · rcases hk with rfl | rfl <;> rfl
  · obtain ⟨x, x1, x2⟩ := a5 env he
    obtain ⟨y, y1, y2⟩ := b5 env he
    simp only [Tm.eval, x1, y1]
    exact bin_lid h6
theorem TruTree.not {a : List (Int × Int)} {A : Tm} (ha : TruTree a A) : TruTree ((10, 0) :: a) (.un 10 0 A) := by
  obtain ⟨a1, a2, a3, a4, a5⟩ := ha
  refine ⟨by simp [Tm.ops, a1], ⟨rfl, rfl, a2⟩, ?_, rfl, fun env he => ?_⟩
  · have ht : Tm.tkT 10 = true := rfl
    simp [Tm.typed, a3, a4, ht]
  · obtain ⟨x, x1, x2⟩ := a5 env he
    exact ⟨1 - x, by simp only [Tm.eval, x1], by omega⟩
theorem TruTree.bin {a b : List (Int × Int)} {A B : Tm} {k : Int} (h8 : 8 ≤ k) (h9 : k ≤ 9) (ha : TruTree a A) (hb : TruTree b B) : TruTree ((k, 0) :: (a ++ b)) (.bi k 0 A B) := by
  obtain ⟨a1, a2, a3, a4, a5⟩ := ha
  obtain ⟨b1, b2, b3, b4, b5⟩ := hb
  have hk : k = 8 ∨ k = 9 := by omega
  refine ⟨by simp [Tm.ops, a1, b1], ⟨by omega, by omega, rfl, a2, b2⟩, ?_, ?_, fun env he => ?_⟩
  · have ht : Tm.tkT k = true := by rcases hk with rfl | rfl <;> rfl
    simp [Tm.typed, a3, b3, a4, b4, ht]
  · rcases hk with rfl | rfl <;> rfl
  · obtain ⟨x, x1, x2⟩ := a5 env he
    obtain ⟨y, y1, y2⟩ := b5 env he
    simp only [Tm.eval, x1, y1]
    exact bin_lid (by omega)
theorem TruT.tree {d : Nat} {t : List (Int × Int)} (h : TruT 3 d t) : ∃ T, TruTree t T := by
  induction h with
  | lit d k h1 h2 =>
    have hk : k = 11 ∨ k = 12 := by omega
    refine ⟨.leaf k 0, rfl, .inr (.inr ⟨hk, rfl⟩), rfl, by rcases hk with rfl | rfl <;> rfl, fun env he => ⟨_, rfl, ?_⟩⟩
    rcases hk with rfl | rfl <;> simp
  | cmp d k a b h6 h7 ha hb =>
    obtain ⟨A, hA⟩ := ha.tree (by omega)
    obtain ⟨B, hB⟩ := hb.tree (by omega)
    exact ⟨_, hA.cmp h6 h7 hB⟩
  | not d a _ iha =>
    obtain ⟨A, hA⟩ := iha
    exact ⟨_, hA.not⟩
  | bin d k a b h8 h9 _ _ iha ihb =>
    obtain ⟨A, hA⟩ := iha
    obtain ⟨B, hB⟩ := ihb
    exact ⟨_, hA.bin h8 h9 hB⟩
end Go.Proofs.YtoeagklgfaoejaaDoor

/-
  The contracts of the keeping laws' own picked (exact) and env.
-/
namespace Go.Proofs.YtoeagklgfaoejaaDoor
open Go.ChangeShapes Go.WideShapes Go.ChangeAt Go.RowKit Go.Deep
open Terms

/-- what picked makes. -/
def pk (n m : Int) : Int := if n < 0 then -((n + 1).tmod m) else n % m
theorem pk_range {n m : Int} (hm : 0 < m) : 0 ≤ pk n m ∧ pk n m < m := by
  unfold pk
  split
  · exact neg_rem (by omega) hm
  · exact ⟨Int.emod_nonneg _ (by omega), Int.emod_lt_of_pos _ hm⟩
theorem picked_is (n many : Int) (w : World) (hn : I64 n) (hm : 0 < many) (hm2 : many ≤ 10000) :
    Calls Tryd.prog 8 #[.int .i64 n, .int .i64 many] w fun e w' => e = .returned (.int .i64 (pk n many)) ∧ w' = w := by
  obtain ⟨h1, h2⟩ := hn
  by_cases h0 : n < 0
  · have hne : ¬ many = 0 := by omega
    rw [show pk n many = -((n + 1).tmod many) by unfold pk; rw [if_pos h0]]
    go_enter Tryd.func8, Tryd.ntmps8
    go_wp2
    go_ret
    exact ⟨rfl, rfl⟩
  · have hne : ¬ many = 0 := by omega
    rw [show pk n many = n % many by unfold pk; rw [if_neg h0]]
    go_enter Tryd.func8, Tryd.ntmps8
    go_wp2
    go_ret
    exact ⟨rfl, rfl⟩

def envL (a b c : Int) : List Int := [pk a 9, pk b 9, pk c 9]
theorem envL_s (a b c : Int) : EnvS (envL a b c) := by
  refine ⟨rfl, fun i hi => ?_⟩
  have h0 := pk_range (n := a) (m := 9) (by omega)
  have h1 := pk_range (n := b) (m := 9) (by omega)
  have h2 := pk_range (n := c) (m := 9) (by omega)
  match i, hi with
  | 0, _ => simp [envL]; omega
  | 1, _ => simp [envL]; omega
  | 2, _ => simp [envL]; omega

/-- raw numbers stay what they are. -/
theorem Raws.later {w w' : World} {v : Value} {rs : List (Int × Int)} (h : Raws w w.heap.size v rs) (hb : Below w.heap.size w w') : Raws w' w'.heap.size v rs := by
  obtain ⟨⟨ao, cap, hv, h1⟩, h2, h3⟩ := h.below hb
  refine ⟨⟨ao, cap, hv, fun hne => ?_⟩, h2, h3⟩
  obtain ⟨b, off, hx, hlt, hat⟩ := h1 hne
  exact ⟨b, off, hx, Nat.lt_of_lt_of_le hlt hb.size, hat⟩
end Go.Proofs.YtoeagklgfaoejaaDoor

/-
  A line of claims that somebody else has told: it follows and nothing waits for ever in it, just if it is that of what holds.
-/
namespace Go.Proofs.YtoeagklgfaoejaaDoor
open Terms

theorem metA_same {f g : Nat → Int} {s : Nat} : ∀ n, (∀ i, i < n → f i = g i) → metA f s n = metA g s n
  | 0, _ => rfl
  | n + 1, h => by
    unfold metA
    rw [metA_same n (fun i hi => h i (by omega)), h n (by omega)]
theorem mine_code {m : Nat} {x : List (Int × Int)} {T : Tm} (hF : FOk m x T) (hl : x.length ≤ 60) (hm : m ≤ 3) {ss ll : List (List Bool)} (hW : WOk ss ll) {mine : Nat → Int} (hbd : ∀ i, i < (ss ++ ll).length → 0 ≤ mine i ∧ mine i < 2 ^ (aheadL x).length) {i k : Nat} (hi : i < (ss ++ ll).length) (hk : k < (ss ++ ll).length) :
    tcode x ((ss ++ ll).getD i []) (mine i) = 0 ∧ fcode x ((ss ++ ll).getD i []) (mine i) ((ss ++ ll).getD k []) (mine k) = 0 := by
  have c1 := claim_code hF hl (by omega) (all3 hW hi) (hbd i hi)
  have c2 := claim_code hF hl (by omega) (all3 hW hk) (hbd k hk)
  refine ⟨c1, ?_⟩
  unfold fcode
  rw [if_neg (by rw [all3 hW hi, all3 hW hk]; simp), if_neg (by rw [c1]; simp), c2]
/-- THE LINE OF CLAIMS IS THAT OF WHAT HOLDS, just if it follows and each is met. -/
theorem line_mine {m : Nat} {x : List (Int × Int)} {T : Tm} (hF : FOk m x T) (hl : x.length ≤ 60) (hm : m ≤ 3) {ss ll : List (List Bool)} (hW : WOk ss ll) (mine : Nat → Int) (hbd : ∀ i, i < (ss ++ ll).length → 0 ≤ mine i ∧ mine i < 2 ^ (aheadL x).length) :
    ((∀ i, i < (ss ++ ll).length → folR x ((ss ++ ll).getD i []) (mine i) ((ss ++ ll).getD (moAt ss.length (ss ++ ll).length (i + 1)) []) (mine (moAt ss.length (ss ++ ll).length (i + 1))) = true) ∧ metA (fun i => metN x ((ss ++ ll).getD i []) (mine i)) ss.length (ss ++ ll).length = 2 ^ (aheadL x).length - 1) ↔ ∀ i, i < (ss ++ ll).length → mine i = clmI x T (ss ++ ll) ss.length i := by
  have hs : ss.length < (ss ++ ll).length := by have := hW.one; simp; omega
  have ham := hF.ahead
  obtain ⟨hv, h8⟩ := good_vals hF
  constructor
  · rintro ⟨hfol, hfull⟩
    exact claims_only hF.wf hF.ops (hF.ends hl) hv h8 hs mine hbd (fun i hi p hp hb2 => by
      have h9 := hfol i hi
      have hF2 : Fol x (tru x ((ss ++ ll).getD i []) (mine i)) (tru x ((ss ++ ll).getD (moAt ss.length (ss ++ ll).length (i + 1)) []) (mine (moAt ss.length (ss ++ ll).length (i + 1)))) := by
        by_cases hn : Fol x (tru x ((ss ++ ll).getD i []) (mine i)) (tru x ((ss ++ ll).getD (moAt ss.length (ss ++ ll).length (i + 1)) []) (mine (moAt ss.length (ss ++ ll).length (i + 1))))
        · exact hn
        · rw [folR_no hn] at h9; cases h9
      exact hF2 p hp hb2) (met_all (by omega) (fun i hi => (mine_code hF hl hm hW hbd hi hi).1) hfull)
  · intro h
    refine ⟨fun i hi => ?_, ?_⟩
    · have hn : moAt ss.length (ss ++ ll).length (i + 1) < (ss ++ ll).length := moAt_lt hs
      refine folR_yes (mine_code hF hl hm hW hbd hi hn).2 ?_
      exact (claims_fit hF.wf hF.ops (hF.ends hl) hv h8 hs mine h).1 i hi
    · rw [metA_same _ (fun i hi => by rw [h i hi])]
      exact line_met hF hl (by omega) hW
/-- the other line, so many of its claims told. -/
noncomputable def mineF (f : Nat → Int) (oth : List Int) (p : Int) (k j : Nat) : Int := if j < k then pk (oth.getD j 0) p else f j
open Classical in
noncomputable def difB (f : Nat → Int) (oth : List Int) (p : Int) (k : Nat) : Bool := decide (∃ j, j < k ∧ pk (oth.getD j 0) p ≠ f j)
theorem difB_zero (f : Nat → Int) (oth : List Int) (p : Int) : difB f oth p 0 = false := by
  unfold difB
  exact decide_eq_false (by rintro ⟨j, hj, _⟩; omega)
theorem difB_succ (f : Nat → Int) (oth : List Int) (p : Int) (k : Nat) : difB f oth p (k + 1) = (difB f oth p k || decide (pk (oth.getD k 0) p ≠ f k)) := by
  apply Tm.bool_eq
  unfold difB
  rw [Bool.or_eq_true, decide_eq_true_iff, decide_eq_true_iff, decide_eq_true_iff]
  constructor
  · rintro ⟨j, hj, h⟩
    by_cases e : j = k
    · subst e; exact .inr h
    · exact .inl ⟨j, by omega, h⟩
  · rintro (⟨j, hj, h⟩ | h)
    · exact ⟨j, by omega, h⟩
    · exact ⟨k, by omega, h⟩
theorem difB_not {f : Nat → Int} {oth : List Int} {p : Int} {k n : Nat} (hk : k ≤ n) : difB f oth p k = false ↔ ∀ j, j < n → mineF f oth p k j = f j := by
  unfold difB
  rw [decide_eq_false_iff_not]
  constructor
  · intro h j hj
    unfold mineF
    by_cases hjk : j < k
    · rw [if_pos hjk]
      exact Classical.byContradiction fun hne => h ⟨j, hjk, hne⟩
    · rw [if_neg hjk]
  · rintro h ⟨j, hj, hne⟩
    have := h j (by omega)
    unfold mineF at this
    rw [if_pos hj] at this
    exact hne this
end Go.Proofs.YtoeagklgfaoejaaDoor

/-
  A row of claims that is told anew, one by one.
-/
namespace Go.Proofs.YtoeagklgfaoejaaDoor
open Go.ChangeShapes Go.WideShapes Go.ChangeAt Go.RowKit Go.Deep
open Terms

/-- the row in block mb, made behind the world T. -/
structure MJ (T : World) (mb nm : Nat) (f : Nat → Int) (W : World) : Prop where
  below : Below T.heap.size T W
  base : T.heap.size ≤ mb
  row : ∃ n g, nm ≤ n ∧ W.rowIs mb 3 n g ∧ ∀ j, j < nm → g j = .int .i64 (f j)
theorem MJ.lt {T : World} {mb nm : Nat} {f : Nat → Int} {W : World} (s : MJ T mb nm f W) : mb < W.heap.size := by
  obtain ⟨n, g, _, h, _⟩ := s.row
  exact h.lt
theorem MJ.cell {T : World} {mb nm : Nat} {f : Nat → Int} {W : World} (s : MJ T mb nm f W) {j : Nat} (hj : j < nm) : W.cell? ⟨mb, j, none⟩ = some (.int .i64 (f j)) := by
  obtain ⟨n, g, hn, h, hg⟩ := s.row
  rw [h.cell (show j < n by omega), hg j hj]
theorem MJ.frozen {T : World} {mb nm : Nat} {f : Nat → Int} {W : World} (s : MJ T mb nm f W) (j : Nat) : W.frozen? ⟨mb, j, none⟩ = false := by
  obtain ⟨n, g, _, h, _⟩ := s.row
  exact h.frozen j
theorem MJ.put {T : World} {mb nm : Nat} {f : Nat → Int} {W : World} (s : MJ T mb nm f W) (p : Nat) (x : Int) (g : Nat → Int) (hg : ∀ j, j < nm → g j = if j = p then x else f j) : MJ T mb nm g (W.setCell ⟨mb, p, none⟩ (.int .i64 x)) := by
  obtain ⟨n, r, hn, h, hr⟩ := s.row
  refine ⟨s.below.setCell s.base _, s.base, n, _, hn, h.set p (.int .i64 x), fun j hj => ?_⟩
  rw [hg j hj]
  by_cases e : j = p
  · rw [if_pos e, if_pos e]
  · rw [if_neg e, if_neg e, hr j hj]
theorem MJ.congr {T : World} {mb nm : Nat} {f g : Nat → Int} {W : World} (s : MJ T mb nm f W) (hg : ∀ j, j < nm → f j = g j) : MJ T mb nm g W := by
  obtain ⟨n, r, hn, h, hr⟩ := s.row
  exact ⟨s.below, s.base, n, r, hn, h, fun j hj => by rw [hr j hj, hg j hj]⟩
theorem MJ.later {T : World} {mb nm : Nat} {f : Nat → Int} {W W' : World} (s : MJ T mb nm f W) (hb : Below W.heap.size W W') : MJ T mb nm f W' := by
  obtain ⟨n, r, hn, h, hr⟩ := s.row
  exact ⟨s.below.trans (hb.mono s.below.size), s.base, n, r, hn, row_later h hb, hr⟩
theorem MJ.drew {T : World} {mb nm : Nat} {f : Nat → Int} {W : World} (s : MJ T mb nm f W) : MJ T mb nm f W.drew := s.later (Below.refl _ _).drew
/-- what append has made of a row of ints. -/
theorem MJ.start {T W : World} {g nm cap : Nat} {f : Nat → Int} (hb : Below T.heap.size T W) (ho : W.ownsRow T.heap.size 3 1 (.slice (some ⟨g, 0, none⟩) nm cap) nm ((List.range nm).map fun j => .int .i64 (f j))) : MJ T g nm f W := by
  obtain ⟨hl, h⟩ := ho
  rcases h with ⟨h, _⟩ | ⟨g', cap', cur, hv, hg, hh, hn, _, hs, ht⟩
  · cases h
  · injection hv with q1 q2 q3
    injection Option.some.inj q1 with q1 _
    subst q1
    refine ⟨hb, hg, cap', fun j => cur[j]?.getD undef, by omega, ⟨cur, hh, by omega, fun i hi => ?_⟩, fun j hj => ?_⟩
    · have h8 : i < cur.size := by omega
      simp [h8]
    · have h9 : (cur.toList.take (nm * 1))[j]? = some (.int .i64 (f j)) := by
        rw [ht]
        simp [hj]
      rw [List.getElem?_take_of_lt (by omega), Array.getElem?_toList] at h9
      show cur[j]?.getD undef = _
      rw [h9]
      rfl
theorem addr_zero (b j : Nat) : (⟨b, 0, none⟩ : Addr).add j = ⟨b, j, none⟩ := by unfold Addr.add; split <;> simp_all
theorem ints_at {w : World} {ao : Option Addr} {cap n : Nat} {l : List Int} (h : IntsV w (.slice ao n cap) l) {i : Nat} (hi : i < l.length) : ∃ b off, ao = some ⟨b, off, none⟩ ∧ b < w.heap.size ∧ w.cell? ⟨b, off + i, none⟩ = some (.int .i64 (l.getD i 0)) := by
  obtain ⟨ao', cap', h1, h3⟩ := h
  injection h1 with e1 e2 e3
  subst e1
  obtain ⟨b, off, e, hb, hh⟩ := h3 (by intro h; subst h; simp at hi)
  exact ⟨b, off, e, hb, hh i hi⟩
theorem mineF_zero (f : Nat → Int) (oth : List Int) (p : Int) (j : Nat) : mineF f oth p 0 j = f j := by
  unfold mineF
  rw [if_neg (by omega)]
theorem mineF_succ (f : Nat → Int) (oth : List Int) (p : Int) (k j : Nat) : mineF f oth p (k + 1) j = if j = k then pk (oth.getD k 0) p else mineF f oth p k j := by
  unfold mineF
  by_cases e : j = k
  · subst e; rw [if_pos (by omega), if_pos rfl]
  · rw [if_neg e]
    by_cases e2 : j < k
    · rw [if_pos (by omega), if_pos e2]
    · rw [if_neg (by omega), if_neg e2]
theorem mineF_bounds {f : Nat → Int} {oth : List Int} {am k : Nat} {j : Nat} (hf : 0 ≤ f j ∧ f j < 2 ^ am) : 0 ≤ mineF f oth (2 ^ am) k j ∧ mineF f oth (2 ^ am) k j < 2 ^ am := by
  unfold mineF
  split
  · exact pk_range (Int.pow_pos (by decide))
  · exact hf
end Go.Proofs.YtoeagklgfaoejaaDoor

/-
  Stem and loop in one list.
-/
namespace Go.Proofs.YtoeagklgfaoejaaDoor
open Go.ChangeShapes Go.WideShapes Go.ChangeAt Go.RowKit Go.Deep
open Terms

theorem addP (b off j : Nat) : (⟨b, off, none⟩ : Addr).add j = ⟨b, off + j, none⟩ := by unfold Addr.add; split <;> simp_all
theorem letters_cells {w : World} {so : Option Addr} {sn sc : Nat} {ss : List (List Bool)} (h : LettersV w (.slice so sn sc) ss) (hl : ss.length = sn) : ∃ us : List Value, us.length = sn ∧ LetsU w us ss ∧ (0 < sn → ∃ b off, so = some ⟨b, off, none⟩ ∧ b < w.heap.size ∧ ∀ W : World, Below w.heap.size w W → ∀ (j : Nat) (u : Value), us[j]? = some u → W.cell? ((⟨b, off, none⟩ : Addr).add j) = some u) := by
  obtain ⟨us, ao, cap, e, _, hu, hr⟩ := h
  injection e with e1 e2 e3
  subst e1 e3
  refine ⟨us, by rw [hu.1, hl], hu, fun h0 => ?_⟩
  obtain ⟨b, off, ea, hb, hc⟩ := hr (by rintro rfl; simp at hl; omega)
  refine ⟨b, off, ea, hb, fun W hW j u hj => ?_⟩
  have hjl := (List.getElem?_eq_some_iff.1 hj).1
  rw [hu.1] at hjl
  rw [addP, hW.cell (p := ⟨b, off + j, none⟩) hb, hc j hjl, List.getD_eq_getElem?_getD, hj]
  rfl
theorem letters_all {w W : World} {us vs : List Value} {ss ll : List (List Bool)} {base g cap n : Nat} (h1 : LetsU w us ss) (h2 : LetsU w vs ll) (hb : Below w.heap.size w W) (hn : n = ss.length + ll.length) (ho : W.ownsRow base 39 1 (.slice (some ⟨g, 0, none⟩) n cap) n (us ++ vs)) : LettersV W (.slice (some ⟨g, 0, none⟩) n cap) (ss ++ ll) := by
  have hlen : (us ++ vs).length = n := by simp [h1.1, h2.1, hn]
  exact lettersV_of_owns (base := base) (us := us ++ vs) (by rw [hlen]; exact ho) (LetsU.below (LetsU.append h1 h2) hb)
section
variable {P : Program} {w : World}
open Go.Region
theorem run_app0 (t ty e : TypeId) (i : TypeInfo) (ht : P.underlying t = some (.slice e)) (hi : P.info? e = some i) (so : Option Addr) (sc : Nat) :
    (Builtin.append_ #[t, t] ty #[.slice none 0 0, .slice so 0 sc]).run P w = .ok (.slice none 0 0) w := by
  cases so with
  | none => simp [Builtin.append_, run_underlying ht, sizeOf, typeInfo, hi, Builtin.lenOf, Builtin.firstCells]
  | some a => simp [Builtin.append_, run_underlying ht, sizeOf, typeInfo, hi, Builtin.lenOf, Builtin.firstCells, loadCells, loadCellsFrom]
theorem step_app0 {ops : Array Oper} {o : Oper} {a : Act} {K : Act → World → Prop} {Q : Exit → Act → World → Prop} {E : Prop} (hgd : o.guard = none) (x : Operand) (t : TypeId)
    (ho : o.op = .call { callee := .builtin .append, args := #[.const (.slice none 0 0), x], argTypes := #[t, t] })
    (e : TypeId) (i : TypeInfo) (ht : P.underlying t = some (.slice e)) (hi : P.info? e = some i) (so : Option Addr) (sc : Nat) (hx : a.eval x = .slice so 0 sc) (h : K (a.put o.dst (.slice none 0 0)) w) :
    if Region.wanted o (yielded ops a.tmps) = true then Oper.wp P o a w K Q else E := by
  have hw : Region.wanted o (yielded ops a.tmps) = true := by simp [Region.wanted, hgd]
  rw [if_pos hw]
  have hr := run_app0 (P := P) (w := w) t o.type e i ht hi so sc
  have hs : a.eval (.const (.slice none 0 0)) = .slice none 0 0 := rfl
  unfold Oper.wp execOp
  simp only [ho, resolve, invoke, builtin, Sem.run_bind, Sem.run_pure, Result.andThen_ok, List.map_toArray, List.map_cons, List.map_nil, hs, hx, hr]
  exact h
end
end Go.Proofs.YtoeagklgfaoejaaDoor

/-
  The walk of ClaimOnly.
-/
namespace Go.Proofs.YtoeagklgfaoejaaDoor
open Go.ChangeShapes Go.WideShapes Go.ChangeAt Go.RowKit Go.Deep
open Terms

set_option maxHeartbeats 8000000 in
set_option maxRecDepth 20000 in
theorem claimOnly_walk (xv s0 s1 : Value) (xs : List (Int × Int)) (a b : List Int) (w : World) (hB : 0 < w.heap.size) (hT : TabAt w) (hRx : Raws w w.heap.size xv xs) (hA : IntsR w s0 a) (hBb : IntsR w s1 b) (ov : Value) (oth : List Int) (hO : IntsR w ov oth) :
    Calls Tryd.prog 3 #[xv, .agg #[s0, s1], ov] w fun e w' => e = .returned (.bool true) ∧ Below w.heap.size w w' := by
  have HWo : Hid (∀ w1, Below w.heap.size w w1 → Calls Tryd.prog 4 #[.agg #[s0, s1]] w1 fun e w' => ∃ so sc lo lc ss ll, e = .returned (.agg #[.slice so ss.length sc, .slice lo ll.length lc]) ∧ Below w1.heap.size w1 w' ∧ Hid (WOk ss ll) ∧ Hid (LettersV w' (.slice so ss.length sc) ss ∧ LettersV w' (.slice lo ll.length lc) ll)) := fun w1 h => wordFn_any s0 s1 a b w1 (hA.below h) (hBb.below h)
  have HFx : Hid (∀ w1, Below w.heap.size w w1 → Calls Tryd.prog 5 #[xv, .int .i64 3, .int .i64 3] w1 fun e w' => ∃ a c t T m, e = .returned (.slice a t.length c) ∧ Below w1.heap.size w1 w' ∧ Hid (KFor w' (.slice a t.length c) 3 t T m)) := fun w1 h => (formulaFn_any xv xs 3 3 w1 (by omega) (by omega) (by omega) (hRx.up h)).mono fun e w' ⟨a, c, t, m, h1, h2, h3, h4, h5, h6⟩ => by
    obtain ⟨T, hT⟩ := h2.ok
    exact ⟨a, c, t, T, m, h1, h6, h5, hT, h4, h2.ne, h3⟩
  obtain ⟨xq0, xq1, xq2, rfl⟩ : ∃ a n c, xv = .slice a n c := by obtain ⟨⟨a, c, h, _⟩, _, _⟩ := hRx; exact ⟨_, _, _, h⟩
  obtain ⟨e0, e1, e2, rfl⟩ : ∃ a n c, s0 = .slice a n c := by obtain ⟨a, c, h, _⟩ := hA.v; exact ⟨_, _, _, h⟩
  obtain ⟨g0, g1, g2, rfl⟩ : ∃ a n c, s1 = .slice a n c := by obtain ⟨a, c, h, _⟩ := hBb.v; exact ⟨_, _, _, h⟩
  obtain ⟨oa, oc, rfl, _⟩ := id hO.v
  have HO : Hid (IntsR w (.slice oa oth.length oc) oth) := hO
  have hA0 : ∀ o, Below w.heap.size w (w.alloc o) := fun o => (Below.refl _ _).alloc (Nat.le_refl _) o
  have HT : Hid (0 < w.heap.size ∧ TabAt w) := ⟨hB, hT⟩
  clear hRx hA hBb hT hB hO
  generalize hon : oth.length = on at *
  have HOn : Hid (oth.length = on) := hon
  have hobd : on ≤ 140737488355328 := by rw [← hon]; exact HO.out.len
  clear hon
  go_enter Tryd.func3, Tryd.ntmps3
  go_wp2_with (first | (go_at_call 4; refine (HWo.out _ (by first | exact Below.refl _ _ | exact hA0 _)).mono ?_; rintro e w1 ⟨so, sc, lo, lc, ss, ll, rfl, hb1, HWk, HLs⟩; have hbw1 : Below w.heap.size w w1 := (by first | exact hb1 | exact (hA0 _).trans (hb1.mono (hA0 _).size)); have hbA := hbw1.alloc hbw1.size (.cells #[.slice so ss.length sc, .slice lo ll.length lc] 28); have hq0 := HFx.out _ hbA) | (go_at_call_of 5 xq1; refine hq0.mono ?_; rintro e v0 ⟨xa, xc, x, Tx, mx, rfl, hbf0, Hx⟩; have hbF0 := hbA.trans (hbf0.mono hbA.size); have HK := (show Hid _ from KCtx.start HT.out hbw1 HLs.out HWk.out (hbf0)); have hkc := HK.out.c0; have hkd := HK.out.c1; have hklt := HK.out.lt; have hs5 : ss.length ≤ 5 := HWk.out.stem; have hl5 : ll.length ≤ 5 := HWk.out.loop))
  have Kx : Hid (KFor v0 (.slice xa x.length xc) 3 x Tx mx) := Hx
  have HC0 : Hid (Below v0.heap.size v0 v0) := Below.refl _ _
  clear HFx Hx HWo HLs HWk HT hA0 hbA hbw1 hb1 hkc hkd hs5 hl5 hklt hbf0 hbF0 hq0
  generalize w1.heap.size = wb at *
  generalize v0 = w3 at *
  generalize hxn : x.length = xn at *
  have Lx : Hid (x.length = xn) := hxn
  clear hxn
  generalize hsn : ss.length = sn at *
  generalize hln : ll.length = ln at *
  have LS : Hid (ss.length = sn) := hsn
  have LL : Hid (ll.length = ln) := hln
  clear hsn hln
  have hs5 : sn ≤ 5 := by have := HK.out.ok.stem; have := LS.out; omega
  have hl5 : ln ≤ 5 := by have := HK.out.ok.loop; have := LL.out; omega
  have hl1 : 1 ≤ ln := by have := HK.out.ok.one; have := LL.out; omega
  obtain ⟨nm, hnm⟩ : ∃ nm, nm = sn + ln := ⟨_, rfl⟩
  have HNm : Hid (nm = sn + ln) := hnm
  have hsum : (sn : Int) + (ln : Int) = (nm : Int) := by omega
  have hn10 : nm ≤ 10 := by omega
  have hn1 : 1 ≤ nm := by omega
  have hml : (aheadL x).length ≤ 3 := by rw [Kx.out.ok.ahead]; exact Kx.out.many
  have HCl : Hid (∀ w1, Below w3.heap.size w3 w1 → Calls Tryd.prog 6 #[.slice xa xn xc, .agg #[.slice so sn sc, .slice lo ln lc], .int .i64 3] w1 fun e w' => ∃ rb, e = .returned (.tuple #[.slice (some ⟨rb, 0, none⟩) nm nm, .int .i64 0]) ∧ Below w1.heap.size w1 w' ∧ Hid (w'.rowIs rb 3 nm (fun j => .int .i64 (clmI x Tx (ss ++ ll) ss.length j)))) := fun w1 hb => by
    have k := HK.out.later hb
    have := claims_ok (.slice xa xn xc) (.slice so sn sc) (.slice lo ln lc) x ss ll 3 Tx w1 k.pos k.tab (Kx.out.later hb).v k.s k.l (mocode_ok Kx.out.ok (by have := Kx.out.len; omega) (by have := Kx.out.many; omega) k.ok.code) Kx.out.ok.wf Kx.out.ok.ops
    rw [LS.out, LL.out, ← hnm] at this
    rw [← LS.out]
    rw [← LS.out] at this
    exact this
  have HAh : Hid (∀ w1, Below w3.heap.size w3 w1 → Calls Tryd.prog 7 #[.slice xa xn xc, .int .i64 3] w1 fun e w' => ∃ ao ac, e = .returned (.tuple #[.slice ao (aheadL x).length ac, .int .i64 0]) ∧ Below w1.heap.size w1 w') := fun w1 hb =>
    (lahead_own (.slice xa xn xc) x 3 w1 (HK.out.later hb).pos (HK.out.later hb).tab (Kx.out.later hb).v (Kx.out.ok.code (by have := Kx.out.len; omega) (by have := Kx.out.many; omega))).mono fun e w' ⟨ao, ac, h1, h2, _⟩ => ⟨ao, ac, h1, h2⟩
  have HMl : Hid ((aheadL x).length = (aheadL x).length) := rfl
  generalize ham : (aheadL x).length = am at hml HAh
  have HAm : Hid ((aheadL x).length = am) := ham
  clear ham hnm HMl
  have hcl := HCl.out w3 (Below.refl _ _)
  refine hcl.mono ?_
  rintro e w4 ⟨rb, rfl, hb4, HR⟩
  obtain ⟨_, _, _, _, kb0, kb1, _, _, _⟩ := HK.out.later hb4
  have hah := HAh.out w4 hb4
  go_wp2_with (first
    | (go_at_call 7; refine hah.mono ?_; rintro e w6 ⟨ao, ac, rfl, hb6⟩; have hb36 := hb4.trans (hb6.mono hb4.size); obtain ⟨_, _, _, _, kc0, kc1, _, _, _⟩ := HK.out.later hb36))
  go_cut [14] (fun s15 wx => ∃ (gb cp : Nat), s15 = .slice (some ⟨gb, 0, none⟩) nm cp ∧ Hid (LettersV wx (.slice (some ⟨gb, 0, none⟩) nm cp) (ss ++ ll)) ∧ Hid (Below w6.heap.size w6 wx))
  case first =>
    have k6 := HK.out.later hb36
    obtain ⟨us, hul, hus, hucell⟩ := letters_cells k6.s LS.out
    obtain ⟨vs, hvl, hvs, hvcell⟩ := letters_cells k6.l LL.out
    obtain ⟨lb, loff, rfl, hlb, hlcell⟩ := hvcell (by omega)
    have hwb := k6.lt
    obtain ⟨i0, hi, hz0, hz1', hz2⟩ := info_parts infoBools
    have hb0 : Below w6.heap.size w6 w6.drew := (Below.refl _ _).drew
    have HBx : Hid (∀ W : World, Below w6.heap.size w6 W → W.cell? ⟨wb, 0, none⟩ = some (.slice so sn sc) ∧ W.cell? ⟨wb, 1, none⟩ = some (.slice (some ⟨lb, loff, none⟩) ln lc)) := fun W h => ⟨(h.cell (p := ⟨wb, 0, none⟩) hwb).trans kc0, (h.cell (p := ⟨wb, 1, none⟩) hwb).trans kc1⟩
    have HEnd : Hid (∀ (W : World) (g cp : Nat), Below w6.heap.size w6 W → W.ownsRow w6.heap.size 39 1 (.slice (some ⟨g, 0, none⟩) nm cp) nm (us ++ vs) → LettersV W (.slice (some ⟨g, 0, none⟩) nm cp) (ss ++ ll)) := fun W g cp hb ho => letters_all hus hvs hb (by rw [LS.out, LL.out]; exact HNm.out) ho
    have HOu : Hid (∀ u ∈ us, u.oneCell' = true) := hus.one
    have HOv : Hid (∀ u ∈ vs, u.oneCell' = true) := hvs.one
    have HUl : Hid (us.length = sn * 1) := by show _ = _; omega
    have HVl : Hid (vs.length = ln * 1) := by show _ = _; omega
    have HVc : Hid (∀ W : World, Below w6.heap.size w6 W → ∀ (j : Nat) (u : Value), vs[j]? = some u → W.cell? ((⟨lb, loff, none⟩ : Addr).add j) = some u) := hlcell
    have tk1 := True.intro
    have tk2 := True.intro
    by_cases hz : 0 < sn
    · obtain ⟨sb, soff, rfl, hsb, hscell⟩ := hucell hz
      have HUc : Hid (∀ W : World, Below w6.heap.size w6 W → ∀ (j : Nat) (u : Value), us[j]? = some u → W.cell? ((⟨sb, soff, none⟩ : Addr).add j) = some u) := hscell
      clear hul hvl hus hvs hucell hvcell k6 hlcell hscell
      go_region_held3 (fun W => W.cell? ⟨wb, 0, none⟩ = some (.slice (some ⟨sb, soff, none⟩) sn sc) ∧ W.cell? ⟨wb, 1, none⟩ = some (.slice (some ⟨lb, loff, none⟩) ln lc))
        (exact HBx.out _ (by first | exact hbB | exact hbA | exact hb0 | exact Below.refl _ _))
        (first
          | (clear tk1; refine step_append_lies _ (by rfl) (.const (.slice none 0 0)) (.tmp 61) 26 (by rfl) w6.heap.size 39 i0 _ 1 24 Tryd.underlying26 hi hz0 hz1' hz2 (by rfl) (by decide) (.slice none 0 0) 0 [] (by rfl) (World.ownsRow_nil _ _ _ _) ⟨sb, soff, none⟩ sn sc us (by rfl) HUl.out (HUc.out _ (by first | exact hb0 | exact Below.refl _ _)) HOu.out hz (by unfold maxLen; omega) (by omega) (Nat.le_refl _) _ rfl ?_; intro gA capA wA howA hgrA hatA hltA; have hbA : Below w6.heap.size w6 wA := Below.grown (by first | exact hb0 | exact Below.refl _ _) hgrA (Nat.le_refl _) (fun z hz => by cases hz); rw [Nat.zero_add, List.nil_append] at howA; have hwA := hbA.size)
          | (clear tk2; refine step_append_lies _ (by rfl) (.tmp 62) (.tmp 64) 26 (by rfl) w6.heap.size 39 i0 _ 1 24 Tryd.underlying26 hi hz0 hz1' hz2 (by rfl) (by decide) (.slice (some ⟨gA, 0, none⟩) sn capA) sn us (by first | rfl | (show Value.slice (some ⟨gA, 0, none⟩) (0 + sn) capA = _; rw [Nat.zero_add])) howA ⟨lb, loff, none⟩ ln lc vs (by rfl) HVl.out (HVc.out _ hbA) HOv.out (by omega) (by unfold maxLen; omega) (by omega) hwA _ rfl ?_; intro gB capB wB howB hgrB hatB hltB; have hbB : Below w6.heap.size w6 wB := Below.grown hbA hgrB hwA (fun z hz => (howA.lt z hz).1); rw [← HNm.out] at howB))
      all_goals go_wp2_with fail
      all_goals go_meet
      all_goals exact ⟨gB, capB, by rw [HNm.out], HEnd.out _ _ _ hbB howB, hbB⟩
    · obtain rfl : sn = 0 := by omega
      have hu0 : us = [] := List.length_eq_zero_iff.1 hul
      rw [hu0, List.nil_append] at HEnd
      clear hul hvl hus hvs hucell hvcell k6 hlcell
      go_region_held3 (fun W => W.cell? ⟨wb, 0, none⟩ = some (.slice so 0 sc) ∧ W.cell? ⟨wb, 1, none⟩ = some (.slice (some ⟨lb, loff, none⟩) ln lc))
        (exact HBx.out _ (by first | exact hbB | exact hb0 | exact Below.refl _ _))
        (first
          | (clear tk1; refine step_app0 rfl (.tmp 61) 26 rfl 39 i0 Tryd.underlying26 hi so sc (by rfl) ?_)
          | (clear tk2; refine step_append_lies _ rfl (.tmp 62) (.tmp 64) 26 rfl w6.heap.size 39 i0 _ 1 24 Tryd.underlying26 hi hz0 hz1' hz2 (by rfl) (by decide) (.slice none 0 0) 0 [] (by rfl) (World.ownsRow_nil _ _ _ _) ⟨lb, loff, none⟩ ln lc vs (by rfl) HVl.out (HVc.out _ (by first | exact hb0 | exact Below.refl _ _)) HOv.out (by omega) (by unfold maxLen; omega) (by omega) (Nat.le_refl _) _ rfl ?_; intro gB capB wB howB hgrB hatB hltB; have hbB : Below w6.heap.size w6 wB := Below.grown (by first | exact hb0 | exact Below.refl _ _) hgrB (Nat.le_refl _) (fun z hz => by cases hz); rw [← HNm.out, List.nil_append] at howB))
      all_goals go_wp2_with fail
      all_goals go_meet
      all_goals exact ⟨gB, capB, by have h9 := HNm.out; congr 1; omega, HEnd.out _ _ _ hbB howB, hbB⟩
  case rest =>
    obtain ⟨gb, cp, rfl, HLA, HBx⟩ := hcut
    have hbx3 := hb36.trans (HBx.out.mono hb36.size)
    have HX : Hid (∀ W, Below wc.heap.size wc W → KCtx w wb (.slice so sn sc) (.slice lo ln lc) ss ll W ∧ KFor W (.slice xa xn xc) 3 x Tx mx ∧ LettersV W (.slice (some ⟨gb, 0, none⟩) nm cp) (ss ++ ll) ∧ W.rowIs rb 3 nm (fun j => .int .i64 (clmI x Tx (ss ++ ll) ss.length j)) ∧ IntsR W (.slice oa on oc) oth) := fun W hb => by
      have h3 := hbx3.trans (hb.mono hbx3.size)
      have h5 := (hb6.trans (HBx.out.mono hb6.size))
      exact ⟨HK.out.later h3, Kx.out.later h3, HLA.out.below hb, row_later (row_later HR.out h5) hb, HO.out.below (HK.out.later h3).below⟩
    have HLl : Hid ((ss ++ ll).length = nm) := by show _ = _; rw [List.length_append, LS.out, LL.out]; exact HNm.out.symm
    clear HCl HAh hcl hah kb0 kb1 kc0 kc1 HR HLA hb4 hb6 hb36 hbx3 HBx HO
    generalize hwx : wc = wx at *
    clear hwx
    have HFb : Hid (∀ i, 0 ≤ clmI x Tx (ss ++ ll) ss.length i ∧ clmI x Tx (ss ++ ll) ss.length i < 2 ^ am) := fun i => by
      have := clmTo_bounds (aheadL x) (fun q => (Tx.sub q).hb (sig (ss ++ ll) ss.length)) i (aheadL x).length
      unfold clmI
      rw [HAm.out] at this ⊢
      exact this
    obtain ⟨C, hC⟩ : ∃ C : Nat → Int, C = clmI x Tx (ss ++ ll) ss.length := ⟨_, rfl⟩
    have HC : Hid (C = clmI x Tx (ss ++ ll) ss.length) := hC
    rw [← hC] at HFb
    have HX2 : Hid (∀ W, Below wx.heap.size wx W → W.rowIs rb 3 nm (fun j => .int .i64 (C j))) := fun W hb => by
      rw [hC]
      exact (HX.out W hb).2.2.2.1
    clear hC
    go_upto_region 9 with fail
    go_cut [15] (fun s15 wy => ∃ (mb cm : Nat), s15 = .slice (some ⟨mb, 0, none⟩) nm cm ∧ Hid (MJ wx mb nm C wy))
    case first =>
      obtain ⟨i1, hi1, hy0, hy1, hy2⟩ := info_parts infoInt
      have HCl2 : Hid (∀ (j : Nat) (u : Value), ((List.range nm).map fun j => Value.int .i64 (C j))[j]? = some u → wx.cell? ((⟨rb, 0, none⟩ : Addr).add j) = some u) := fun j u hj => by
        have hjn : j < nm := by
          have := (List.getElem?_eq_some_iff.1 hj).1
          simpa using this
        simp [hjn] at hj
        rw [← hj, addr_zero]
        exact (HX2.out wx (Below.refl _ _)).cell hjn
      have HOne : Hid (∀ u ∈ ((List.range nm).map fun j => Value.int .i64 (C j)), u.oneCell' = true) := fun u hu => by
        obtain ⟨j, _, rfl⟩ := List.mem_map.1 hu
        rfl
      have HLn : Hid (((List.range nm).map fun j => Value.int .i64 (C j)).length = nm * 1) := by show _ = _; simp
      generalize hnews : ((List.range nm).map fun j => Value.int .i64 (C j)) = news at *
      have HNews : Hid (((List.range nm).map fun j => Value.int .i64 (C j)) = news) := hnews
      clear hnews
      go_wp2_with (first
        | (at_builtin; refine wpList_append_lies _ rfl (.const (.slice none 0 0)) (.tmp 66) 23 (by rfl) wx.heap.size 3 i1 _ 1 8 Tryd.underlying23 hi1 hy0 hy1 hy2 (by rfl) (by decide) (.slice none 0 0) 0 [] (by rfl) (World.ownsRow_nil _ _ _ _) ⟨rb, 0, none⟩ nm nm news (by rfl) HLn.out HCl2.out HOne.out (by omega) (by unfold maxLen; omega) (by omega) (Nat.le_refl _) _ rfl ?_; intro gM capM wM howM hgrM hatM hltM; have hbM : Below wx.heap.size wx wM := Below.grown (Below.refl _ _) hgrM (Nat.le_refl _) (fun z hz => by cases hz); rw [Nat.zero_add, List.nil_append] at howM))
      all_goals go_meet
      all_goals exact ⟨gM, capM, by first | rfl | rw [Nat.zero_add], MJ.start hbM (by rw [HNews.out]; exact howM)⟩
    case rest =>
      obtain ⟨mb, cm, rfl, HM0⟩ := hcut
      generalize hwy : wc = wy at *
      clear hwy
      go_wp2_with fail
      go_loopw [16, 17] (fun dv iv wr => ∃ k : Nat, k ≤ nm ∧ k ≤ on ∧ iv = .int .i64 k ∧ dv = .bool (difB C oth (2 ^ am) k) ∧ Hid (MJ wx mb nm (mineF C oth (2 ^ am) k) wr)) (fun _ i _ => nm - (intOf i).toNat)
      case atStart => exact ⟨0, Nat.zero_le _, Nat.zero_le _, rfl, by rw [difB_zero], HM0.out.congr fun j _ => (mineF_zero C oth (2 ^ am) j).symm⟩
      case round =>
        obtain ⟨k, hk, hko, rfl, rfl, HM⟩ := hrel
        have hx9 := (HX.out wr HM.out.below).1.below
        by_cases hlt : k < nm ∧ k < on
        · obtain ⟨hlt, hlo⟩ := hlt
          have hlti : (k : Int) < (nm : Int) := by omega
          have hloi : (k : Int) < (on : Int) := by omega
          have hor := (HX.out wx (Below.refl _ _)).2.2.2.2
          obtain ⟨ob, ooff, rfl, hol, hoc⟩ := ints_at hor.v (i := k) (by rw [HOn.out]; exact hlo)
          have HOc : Hid (∀ W, Below wx.heap.size wx W → W.cell? ⟨ob, ooff + k, none⟩ = some (.int .i64 (oth.getD k 0))) := fun W hb => (hb.cell (p := ⟨ob, ooff + k, none⟩) hol).trans hoc
          have ho64 := hor.range k (by rw [HOn.out]; exact hlo)
          have HPk : Hid (∀ W, Calls Tryd.prog 8 #[.int .i64 (oth.getD k 0), .int .i64 (2 ^ am)] W fun e w' => e = .returned (.int .i64 (pk (oth.getD k 0) (2 ^ am))) ∧ w' = W) := fun W => picked_is _ _ W ho64 (Int.pow_pos (by decide)) (by
            have : am = 0 ∨ am = 1 ∨ am = 2 ∨ am = 3 := by omega
            rcases this with rfl | rfl | rfl | rfl <;> decide)
          have HNext : Hid (MJ wx mb nm (mineF C oth (2 ^ am) (k + 1)) (wr.setCell ⟨mb, k, none⟩ (.int .i64 (pk (oth.getD k 0) (2 ^ am))))) := HM.out.put k _ _ fun j _ => mineF_succ _ _ _ _ _
          have HDs : Hid (difB C oth (2 ^ am) (k + 1) = (difB C oth (2 ^ am) k || decide (pk (oth.getD k 0) (2 ^ am) ≠ C k))) := difB_succ _ _ _ _
          have HMk : Hid (mineF C oth (2 ^ am) (k + 1) k = pk (oth.getD k 0) (2 ^ am)) := by show _ = _; rw [mineF_succ, if_pos rfl]
          have hcc := HM.out.cell hlt
          have hfc := HM.out.frozen k
          have hoc9 := HOc.out wr HM.out.below
          generalize oth.getD k 0 = ok at *
          clear hor hoc ho64 hol hx9
          go_upto_region 14 with fail
          go_cut [] (fun wz => Hid (MJ wx mb nm (mineF C oth (2 ^ am) (k + 1)) wz))
          case first =>
            have hac : am = 0 ∨ am = 1 ∨ am = 2 ∨ am = 3 := by omega
            clear HDs HMk
            generalize pk ok (2 ^ am) = pv at *
            rcases hac with rfl | rfl | rfl | rfl
            all_goals
              simp only [Int.reducePow] at HPk
              have hpk := HPk.out
              go_region_held3 (fun W => W.cell? ⟨ob, ooff + k, none⟩ = some (.int .i64 ok)) (first | exact hoc9 | exact HOc.out _ HNext.out.below | exact HOc.out _ HNext.out.drew.below) ((go_at_call 8; refine (hpk _).mono ?_; rintro e wp ⟨rfl, rfl⟩))
              go_wp2_with fail
            all_goals go_meet
            all_goals first | exact HNext.out.drew | exact HNext.out
          case rest =>
            have HM1 := hcut
            generalize hwz : wc = wz at *
            clear hwz
            have hc1 := HM1.out.cell hlt
            rw [HMk.out] at hc1
            have hc2 := (HX2.out wz HM1.out.below).cell hlt
            clear hcc hfc hoc9 HPk HNext hcut
            generalize difB C oth (2 ^ am) k = d at *
            generalize pk ok (2 ^ am) = pv at *
            generalize hck : C k = ck at *
            go_upto_region 15 with fail
            cases d
            · by_cases hpe : pv = ck
              · subst hpe
                go_region_held3 (fun W => W.cell? ⟨mb, k, none⟩ = some (.int .i64 pv) ∧ W.cell? ⟨rb, k, none⟩ = some (.int .i64 pv)) (exact ⟨hc1, hc2⟩) (fail)
                all_goals go_wp2_with fail
                all_goals exact ⟨⟨k + 1, by omega, by omega, by go_num, by first | (rw [HDs.out]; simp) | (rw [HDs.out]; rfl), by first | exact HM1.out.drew | exact HM1.out⟩, by simp [intOf]; omega⟩
              · go_region
                all_goals go_wp2_with fail
                all_goals exact ⟨⟨k + 1, by omega, by omega, by go_num, by first | (rw [HDs.out]; simp [hpe]) | (rw [HDs.out]; rfl), by first | exact HM1.out.drew | exact HM1.out⟩, by simp [intOf]; omega⟩
            · go_region
              all_goals go_wp2_with fail
              all_goals exact ⟨⟨k + 1, by omega, by omega, by go_num, by first | (rw [HDs.out]; simp) | (rw [HDs.out]; rfl), by first | exact HM1.out.drew | exact HM1.out⟩, by simp [intOf]; omega⟩
        · have HLk : Hid (k = nm ∨ k = on) := by show _ ∨ _; omega
          obtain ⟨mine, hmine⟩ : ∃ mine : Nat → Int, mine = mineF C oth (2 ^ am) k := ⟨_, rfl⟩
          have HMb : Hid (∀ i, 0 ≤ mine i ∧ mine i < 2 ^ am) := fun i => by rw [hmine]; exact mineF_bounds (HFb.out i)
          have HDf : Hid (difB C oth (2 ^ am) k = false ↔ ∀ j, j < nm → mine j = C j) := by rw [hmine]; exact difB_not hk
          rw [← hmine] at HM
          clear hmine HFb
          generalize difB C oth (2 ^ am) k = d at *
          have hkc : ¬ ((k : Int) < (nm : Int) ∧ (k : Int) < (on : Int)) := by omega
          go_upto_region 12 with fail
          go_cut [76] (fun s76 wz => s76 = .bool false ∧ wz = wr)
          case first =>
            by_cases hk1 : (k : Int) < (nm : Int)
            · have hk2 : ¬ (k : Int) < (on : Int) := by omega
              go_wp2_with fail
              all_goals go_meet
              all_goals exact ⟨rfl, rfl⟩
            · go_wp2_with fail
              all_goals go_meet
              all_goals exact ⟨rfl, rfl⟩
          case rest =>
            obtain ⟨rfl, hwz⟩ := hcut
            rw [hwz]
            clear hwz
            have HY : Hid (∀ W, Below wr.heap.size wr W → KCtx w wb (.slice so sn sc) (.slice lo ln lc) ss ll W ∧ KFor W (.slice xa xn xc) 3 x Tx mx ∧ LettersV W (.slice (some ⟨gb, 0, none⟩) nm cp) (ss ++ ll) ∧ ∀ j, j < nm → W.cell? ⟨mb, j, none⟩ = some (.int .i64 (mine j))) := fun W hb => by
              obtain ⟨r1, r2, r3, _, _⟩ := HX.out W (HM.out.below.trans (hb.mono HM.out.below.size))
              exact ⟨r1, r2, r3, fun j hj => (HM.out.later hb).cell hj⟩
            clear HX HX2 HM HM0 HLk hk hko hlt hkc hx9
            generalize hwt : wr = wt at *
            clear hwt
            have HBd : Hid (∀ i, i < (ss ++ ll).length → 0 ≤ mine i ∧ mine i < 2 ^ (aheadL x).length) := fun i _ => by rw [HAm.out]; exact HMb.out i
            obtain ⟨F, hF⟩ : ∃ F : Nat → Int, F = fun i => metN x ((ss ++ ll).getD i []) (mine i) := ⟨_, rfl⟩
            have HF : Hid (F = fun i => metN x ((ss ++ ll).getD i []) (mine i)) := hF
            clear hF
            obtain ⟨G, hG⟩ : ∃ G : Nat → Bool, G = fun i => folR x ((ss ++ ll).getD i []) (mine i) ((ss ++ ll).getD (moAt ss.length (ss ++ ll).length (i + 1)) []) (mine (moAt ss.length (ss ++ ll).length (i + 1))) := ⟨_, rfl⟩
            have HG : Hid (G = fun i => folR x ((ss ++ ll).getD i []) (mine i) ((ss ++ ll).getD (moAt ss.length (ss ++ ll).length (i + 1)) []) (mine (moAt ss.length (ss ++ ll).length (i + 1)))) := hG
            clear hG
            have HLM : Hid (((∀ i, i < nm → G i = true) ∧ metA F sn nm = 2 ^ am - 1) ↔ d = false) := by
              have h9 := line_mine Kx.out.ok (by have := Kx.out.len; omega) Kx.out.many (HY.out wt (Below.refl _ _)).1.ok mine HBd.out
              rw [HAm.out, HLl.out, LS.out] at h9
              show _ ↔ _
              rw [HDf.out, HC.out, LS.out]
              have hG9 := HG.out
              rw [HLl.out, LS.out] at hG9
              rw [HF.out, hG9]
              exact h9
            go_wp2_with fail
            go_loopw [18, 19, 20] (fun mv gv iv wr => ∃ (k : Nat) (g : Bool), k ≤ nm ∧ iv = .int .i64 k ∧ mv = .int .i64 (metA F sn k) ∧ gv = .bool g ∧ Hid (g = true ↔ ∀ i, i < k → G i = true) ∧ Hid (Below wt.heap.size wt wr)) (fun _ _ i _ => nm - (intOf i).toNat)
            case atStart => exact ⟨0, true, Nat.zero_le _, rfl, rfl, rfl, ⟨fun _ i hi => by omega, fun _ => rfl⟩, Below.refl _ _⟩
            case round =>
              obtain ⟨k, g, hk, rfl, rfl, rfl, HA, HB⟩ := hrel
              obtain ⟨kk, kf, kl, kr⟩ := HY.out wr HB.out
              obtain ⟨_, _, _, _, kc0, kc1, _, _, _⟩ := id kk
              by_cases hlt : k < nm
              · have hk20 : k < (ss ++ ll).length := by rw [HLl.out]; exact hlt
                obtain ⟨kn, hkn⟩ : ∃ kn, kn = moAt ss.length (ss ++ ll).length (k + 1) := ⟨_, rfl⟩
                have hknlt : kn < nm := by rw [hkn, HLl.out, LS.out]; exact moAt_lt (by have := HNm.out; omega)
                have hkn1 : k + 1 < nm → kn = k + 1 := fun h => by rw [hkn, HLl.out]; exact moAt_low h
                have hkn2 : k + 1 = nm → kn = sn := fun h => by
                  rw [hkn, HLl.out, LS.out]
                  unfold moAt
                  have := HNm.out
                  rw [if_neg (by omega), h, Nat.mod_self, Nat.add_zero]
                have hst := mine_code Kx.out.ok (by have := Kx.out.len; omega) Kx.out.many kk.ok HBd.out hk20 (k := kn) (by rw [HLl.out]; exact hknlt)
                have X0 := HY.out wt (Below.refl _ _)
                obtain ⟨b1, o1, hg1, _, u1, hu1, hv1⟩ := X0.2.2.1.at (i := k) hk20
                obtain ⟨b2, o2, hg2, _, u2, hu2, hv2⟩ := X0.2.2.1.at (i := kn) (by rw [HLl.out]; exact hknlt)
                injection Option.some.inj hg1 with q1 q2
                subst q1 q2
                injection Option.some.inj hg2 with q1 q2
                subst q1 q2
                rw [Nat.zero_add] at hu1 hu2
                have HGl : Hid (gb < wt.heap.size) := by assumption
                have HS : Hid (∀ W : World, Below wt.heap.size wt W → W.cell? ⟨gb, k, none⟩ = some u1 ∧ W.cell? ⟨gb, kn, none⟩ = some u2 ∧ W.cell? ⟨mb, k, none⟩ = some (.int .i64 (mine k)) ∧ W.cell? ⟨mb, kn, none⟩ = some (.int .i64 (mine kn))) := fun W hb => by
                  obtain ⟨_, _, _, r4⟩ := HY.out W hb
                  exact ⟨(hb.cell (p := ⟨gb, k, none⟩) HGl.out).trans hu1, (hb.cell (p := ⟨gb, kn, none⟩) HGl.out).trans hu2, r4 _ hlt, r4 _ hknlt⟩
                have HFo : Hid (∀ W : World, Below wt.heap.size wt W → Calls Tryd.prog 9 #[.slice xa xn xc, u1, .int .i64 (mine k), u2, .int .i64 (mine kn)] W fun e w' => e = .returned (.tuple #[.bool (G k), .int .i64 0]) ∧ Below W.heap.size W w') := fun W hb => by
                  obtain ⟨r1, r2, _, _⟩ := HY.out W hb
                  have := lfol_any (.slice xa xn xc) u1 u2 x ((ss ++ ll).getD k []) ((ss ++ ll).getD kn []) (mine k) (mine kn) W r1.pos r1.tab r2.v (hv1.below hb) (hv2.below hb)
                  rw [hst.2] at this
                  rw [HG.out]
                  simp only
                  rw [← hkn]
                  exact this
                have HMe : Hid (∀ W : World, Below wt.heap.size wt W → Calls Tryd.prog 10 #[.slice xa xn xc, u1, .int .i64 (mine k)] W fun e w' => e = .returned (.tuple #[.int .i64 (F k), .int .i64 0]) ∧ Below W.heap.size W w') := fun W hb => by
                  obtain ⟨r1, r2, _, _⟩ := HY.out W hb
                  have := lmeets_any (.slice xa xn xc) u1 x ((ss ++ ll).getD k []) (mine k) W r1.pos r1.tab r2.v (hv1.below hb)
                  rw [hst.1] at this
                  rw [HF.out]
                  exact this
                have HKn : Hid ((k + 1 < nm → kn = k + 1) ∧ (k + 1 = nm → kn = sn)) := ⟨hkn1, hkn2⟩
                clear hst hkn
                generalize mine k = m1 at HS HFo HMe
                generalize mine kn = m2 at HS HFo
                clear hkn1 hkn2 X0 hu1 hu2 hv1 hv2 hg1 hg2 kk kf kl kr hk20
                go_upto_if 111 with fail
                go_cut [21] (fun s21 wz => s21 = .int .i64 (kn : Int) ∧ wz = wr)
                case first =>
                  by_cases he : k + 1 = nm
                  · have he' : (k : Int) + 1 = (nm : Int) := by omega
                    go_wp2_with fail
                    all_goals go_meet
                    all_goals exact ⟨by rw [HKn.out.2 he], rfl⟩
                  · have he' : ¬ (k : Int) + 1 = (nm : Int) := by omega
                    go_wp2_with fail
                    all_goals go_meet
                    all_goals exact ⟨by rw [HKn.out.1 (by omega)]; simp, rfl⟩
                case rest =>
                  obtain ⟨rfl, hwz⟩ := hcut
                  rw [hwz]
                  clear hwz
                  have cs0 := HS.out wr HB.out
                  go_upto_region 24 with fail
                  go_cut [22, 23] (fun s22 s23 wz => s22 = .bool (G k) ∧ s23 = .int .i64 0 ∧ Hid (Below wt.heap.size wt wz))
                  case first =>
                    obtain ⟨z0, z1, z2, z3⟩ := cs0
                    go_region_held3 (fun W => W.cell? ⟨gb, k, none⟩ = some u1 ∧ W.cell? ⟨gb, kn, none⟩ = some u2 ∧ W.cell? ⟨mb, k, none⟩ = some (.int .i64 m1) ∧ W.cell? ⟨mb, kn, none⟩ = some (.int .i64 m2)) (exact HS.out _ (by first | exact HB.out.drew.trans (hb7.mono HB.out.drew.size) | exact HB.out.trans (hb7.mono HB.out.size) | exact HB.out.drew | exact HB.out)) ((go_at_call 9; refine (HFo.out _ (by first | exact HB.out.drew | exact HB.out)).mono ?_; rintro e w7 ⟨rfl, hb7⟩))
                    go_wp2_with fail
                    all_goals go_meet
                    all_goals exact ⟨rfl, rfl, (by first | exact HB.out.drew.trans (hb7.mono HB.out.drew.size) | exact HB.out.trans (hb7.mono HB.out.size) | exact HB.out.drew | exact HB.out)⟩
                  case rest =>
                    obtain ⟨rfl, rfl, HB7⟩ := hcut
                    generalize hw7 : wc = w7 at *
                    clear hw7 cs0
                    have cs0 := HS.out w7 HB7.out
                    go_upto_region 25 with fail
                    go_cut [24, 25] (fun s24 s25 wz => s24 = .int .i64 (F k) ∧ s25 = .int .i64 0 ∧ Hid (Below wt.heap.size wt wz))
                    case first =>
                      obtain ⟨z0, z1, z2, z3⟩ := cs0
                      go_region_held3 (fun W => W.cell? ⟨gb, k, none⟩ = some u1 ∧ W.cell? ⟨gb, kn, none⟩ = some u2 ∧ W.cell? ⟨mb, k, none⟩ = some (.int .i64 m1) ∧ W.cell? ⟨mb, kn, none⟩ = some (.int .i64 m2)) (exact HS.out _ (by first | exact HB7.out.drew.trans (hb9.mono HB7.out.drew.size) | exact HB7.out.trans (hb9.mono HB7.out.size) | exact HB7.out.drew | exact HB7.out)) ((go_at_call 10; refine (HMe.out _ (by first | exact HB7.out.drew | exact HB7.out)).mono ?_; rintro e w9 ⟨rfl, hb9⟩))
                      go_wp2_with fail
                      all_goals go_meet
                      all_goals exact ⟨rfl, rfl, (by first | exact HB7.out.drew.trans (hb9.mono HB7.out.drew.size) | exact HB7.out.trans (hb9.mono HB7.out.size) | exact HB7.out.drew | exact HB7.out)⟩
                    case rest =>
                      obtain ⟨rfl, rfl, HB8⟩ := hcut
                      generalize hw8 : wc = w8 at *
                      clear hw8 cs0
                      have kc9 := (HY.out w8 HB8.out).1.c0
                      have HA1 : Hid ((g && G k) = true ↔ ∀ i, i < k + 1 → G i = true) := by
                        show _ ↔ _
                        rw [Bool.and_eq_true, HA.out]
                        constructor
                        · rintro ⟨h1, h2⟩ i hi
                          by_cases hik : i < k
                          · exact h1 i hik
                          · obtain rfl : i = k := by omega
                            exact h2
                        · intro h
                          exact ⟨fun i hi => h i (by omega), h k (by omega)⟩
                      generalize G k = gk at *
                      clear HA
                      by_cases hsn : sn ≤ k
                      · have HM3 : Hid (metA F sn (k + 1) = bits BinOp.or IntKind.i64 (metA F sn k) (F k)) := by show _ = _; simp [metA, hsn]
                        generalize metA F sn k = mt at *
                        generalize F k = fk at *
                        cases g
                        all_goals go_wp2_with fail
                        all_goals go_roundw
                        case rel => exact ⟨k + 1, _, by omega, by go_num, by rw [HM3.out], rfl, HA1, HB8⟩
                        case measure => simp [intOf]; omega
                        case rel => exact ⟨k + 1, _, by omega, by go_num, by rw [HM3.out], rfl, HA1, HB8⟩
                        case measure => simp [intOf]; omega
                      · have HM3 : Hid (metA F sn (k + 1) = metA F sn k) := by show _ = _; simp [metA, hsn]
                        generalize metA F sn k = mt at *
                        cases g
                        all_goals go_wp2_with fail
                        all_goals go_roundw
                        case rel => exact ⟨k + 1, _, by omega, by go_num, by rw [HM3.out], rfl, HA1, HB8⟩
                        case measure => simp [intOf]; omega
                        case rel => exact ⟨k + 1, _, by omega, by go_num, by rw [HM3.out], rfl, HA1, HB8⟩
                        case measure => simp [intOf]; omega
              · obtain rfl : k = nm := by omega
                have HFin : Hid ((g = true ∧ metA F sn k = 2 ^ am - 1) ↔ d = false) := by
                  show _ ↔ _
                  rw [HA.out]
                  exact HLM.out
                have hbw := kk.below
                generalize metA F sn k = mt at *
                clear kk kf kl kr HLM HA
                have hcase : am = 0 ∨ am = 1 ∨ am = 2 ∨ am = 3 := by omega
                rcases hcase with rfl | rfl | rfl | rfl
                · by_cases hmt : mt = 0
                  all_goals
                    cases g
                    all_goals
                      cases d
                      all_goals first
                        | (exfalso; have h9 := HFin.out; simp [hmt] at h9; done)
                        | (go_wp2_with fail; go_ret; exact ⟨by first | rfl | simp [hmt], hbw⟩)
                · by_cases hmt : mt = 1
                  all_goals
                    cases g
                    all_goals
                      cases d
                      all_goals first
                        | (exfalso; have h9 := HFin.out; simp [hmt] at h9; done)
                        | (go_wp2_with fail; go_ret; exact ⟨by first | rfl | simp [hmt], hbw⟩)
                · by_cases hmt : mt = 3
                  all_goals
                    cases g
                    all_goals
                      cases d
                      all_goals first
                        | (exfalso; have h9 := HFin.out; simp [hmt] at h9; done)
                        | (go_wp2_with fail; go_ret; exact ⟨by first | rfl | simp [hmt], hbw⟩)
                · by_cases hmt : mt = 7
                  all_goals
                    cases g
                    all_goals
                      cases d
                      all_goals first
                        | (exfalso; have h9 := HFin.out; simp [hmt] at h9; done)
                        | (go_wp2_with fail; go_ret; exact ⟨by first | rfl | simp [hmt], hbw⟩)
end Go.Proofs.YtoeagklgfaoejaaDoor

/-
  A slice of ints that came in.
-/
namespace Go.Proofs.YtoeagklgfaoejaaDoor
open Go.ChangeShapes Go.WideShapes Go.ChangeAt Go.RowKit Go.Deep
open Terms

set_option maxRecDepth 20000 in
theorem open_intsR {H : Type} {enc : TypeId × Value → H} {W : World} {base : Nat} {v : Value} {d : DataW H} {p : List MemPlace} {ts : List TypeId} {ds : List (DataW H)} {j : Nat}
    (hv : Value.okWide Tryd.prog W .any base 23 v) (h : DataW.Trod enc Tryd.prog W 0 (fun _ => true) true 23 v d p)
    (hsz : (DataW.weightsEach Tryd.prog ts ds).all (· ≤ reachBytes) = true) (ht : ts[j]? = some 23) (hd : ds[j]? = some d) : ∃ l, IntsR W v l := by
  obtain ⟨a0, len0, cap0, rfl⟩ := okWide_slice Tryd.underlying23 hv
  obtain ⟨fuel, hf⟩ := h
  have hw : LightW 23 d := fun n hn => by
    have := List.all_eq_true.1 hsz _ (DataW.weights_mem_each ht hd n hn)
    simpa using this
  exact open_ints_c (fuel := fuel) hf hw
end Go.Proofs.YtoeagklgfaoejaaDoor
