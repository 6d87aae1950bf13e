import Derived.Test.YtobopjjmhginlaaGreatDoorLogicMeet
import Derived.Test.YtobopjjmhginlaaGreatDoorLogicComes
namespace Go.Proofs.YtobopjjmhginlaaGreatDoor
open Go.ChangeShapes Go.WideShapes Go.ChangeAt Go.RowKit Go.Deep
open Terms
set_option maxHeartbeats 6400000
set_option maxRecDepth 20000
def comeAt (l : List (Int × Int)) (h g : Nat -> Bool) (p : Nat) : Bool := comeB (l.getD p (0, 0)).1 (h (p + 1)) (h (sec l p)) (g p) (g (p + 1))
def Fol (l : List (Int × Int)) (h g : Nat -> Bool) : Prop := ∀ p, p < l.length -> lookB (l.getD p (0, 0)).1 = true -> h p = comeAt l h g p
noncomputable def fcode (l : List (Int × Int)) (now : List Bool) (claim : Int) (next : List Bool) (later : Int) : Int := if now.length ≠ next.length then 1 else if tcode l now claim ≠ 0 then tcode l now claim else tcode l next later
open Classical in
noncomputable def folR (l : List (Int × Int)) (now : List Bool) (claim : Int) (next : List Bool) (later : Int) : Bool := if fcode l now claim next later = 0 then decide (Fol l (tru l now claim) (tru l next later)) else false
theorem folR_bad {l : List (Int × Int)} {now : List Bool} {claim : Int} {next : List Bool} {later : Int} (h : fcode l now claim next later ≠ 0) : folR l now claim next later = false := by unfold folR; rw [if_neg h]
open Classical in
theorem folR_yes {l : List (Int × Int)} {now : List Bool} {claim : Int} {next : List Bool} {later : Int} (h : fcode l now claim next later = 0) (h2 : Fol l (tru l now claim) (tru l next later)) : folR l now claim next later = true := by unfold folR; rw [if_pos h]; exact decide_eq_true h2
open Classical in
theorem folR_no {l : List (Int × Int)} {now : List Bool} {claim : Int} {next : List Bool} {later : Int} (h2 : ¬ Fol l (tru l now claim) (tru l next later)) : folR l now claim next later = false := by
  unfold folR
  split
  · exact decide_eq_false h2
  · rfl
theorem fol_len (v : Value) (no xo : Option Addr) (nn nc xn xc : Nat) (claim later : Int) (oo : Option Addr) (on oc : Nat) (hv : v = .slice oo on oc) (w : World) (h : nn ≠ xn) :
    Calls Tryz.prog 85 #[v, .slice no nn nc, .int .i64 claim, .slice xo xn xc, .int .i64 later] w fun e w' => e = .returned (.tuple #[.bool false, .int .i64 1]) /\ Below w.heap.size w w' := by
  subst hv; have hne : ¬ (nn : Int) = xn := by omega
  clear h
  go_enter Tryz.func85, Tryz.ntmps85
  go_wp2_with fail
  go_ret2
  exact ⟨rfl, Below.refl _ _⟩
theorem fol_main (oo : Option Addr) (oc : Nat) (l : List (Int × Int)) (no xo : Option Addr) (nc xc : Nat) (now next : List Bool) (claim later : Int) (w : World) (hB : 0 < w.heap.size) (hT : TabAt w) (hV : OpsV w (.slice oo l.length oc) l) (hL : BoolsV w (.slice no now.length nc) now) (hX : BoolsV w (.slice xo next.length xc) next) (hlen : now.length = next.length) :
    Calls Tryz.prog 85 #[.slice oo l.length oc, .slice no now.length nc, .int .i64 claim, .slice xo next.length xc, .int .i64 later] w fun e w' => e = .returned (.tuple #[.bool (folR l now claim next later), .int .i64 (fcode l now claim next later)]) /\ Below w.heap.size w w' := by
  have hrd := lread2 _ l now.length w hB hT hV
  by_cases hc : lcode now.length l = 0
  · obtain ⟨_, _, hz, _, h6⟩ := lcode_zero hc
    have hcx : lcode next.length l = 0 := by rw [<- hlen]; exact hc
    have hrd2 : Calls Tryz.prog 58 #[.slice oo l.length oc, .int .i64 (now.length : Int)] w fun e w' => Below w.heap.size w w' /\ ∃ B aao ac, e = .returned (.tuple #[.agg #[.slice oo l.length oc, .slice (some ⟨B, 0, none⟩) l.length l.length, .slice aao (aheadL l).length ac], .int .i64 0]) /\ Hid (WholeAt w' (.slice oo l.length oc) B (.slice aao (aheadL l).length ac) l) := hrd.mono fun e w' ⟨h1, _, h3⟩ => ⟨h1, h3 hc⟩
    have HM : Hid (∀ w1 B aao ac, Below w.heap.size w w1 -> WholeAt w1 (.slice oo l.length oc) B (.slice aao (aheadL l).length ac) l -> Calls Tryz.prog 64 #[.agg #[.slice oo l.length oc, .slice (some ⟨B, 0, none⟩) l.length l.length, .slice aao (aheadL l).length ac], .slice no now.length nc, .int .i64 claim] w1 (MethPost l now claim w1)) := fun w1 B aao ac hb hW => meth_any _ B _ _ l now claim w1 hc hW (hL.below hb)
    have HM2 : Hid (∀ w1 B aao ac, Below w.heap.size w w1 -> WholeAt w1 (.slice oo l.length oc) B (.slice aao (aheadL l).length ac) l -> Calls Tryz.prog 64 #[.agg #[.slice oo l.length oc, .slice (some ⟨B, 0, none⟩) l.length l.length, .slice aao (aheadL l).length ac], .slice xo next.length xc, .int .i64 later] w1 (MethPost l next later w1)) := fun w1 B aao ac hb hW => meth_any _ B _ _ l next later w1 hcx hW (hX.below hb)
    have HWA : Hid (∀ w1 B aao ac, WholeAt w1 (.slice oo l.length oc) B (.slice aao (aheadL l).length ac) l -> ∀ o, WholeAt (w1.alloc o) (.slice oo l.length oc) B (.slice aao (aheadL l).length ac) l) := fun w1 B aao ac hW o => hW.below ((Below.refl _ _).alloc (Nat.le_refl _) o)
    by_cases hcl : ClaimNo l claim
    · have hft : fcode l now claim next later = 2 := by unfold fcode; rw [if_neg (by simpa using hlen), tcode_no hc hcl, if_pos (by decide)]
      rw [folR_bad (by rw [hft]; decide), hft]
      have HM3 : Hid (∀ w1 B aao ac, Below w.heap.size w w1 -> WholeAt w1 (.slice oo l.length oc) B (.slice aao (aheadL l).length ac) l -> ∀ o, Calls Tryz.prog 64 #[.agg #[.slice oo l.length oc, .slice (some ⟨B, 0, none⟩) l.length l.length, .slice aao (aheadL l).length ac], .slice no now.length nc, .int .i64 claim] (w1.alloc o) fun e w' => e = .returned (.tuple #[.slice none 0 0, .int .i64 2]) /\ Below w1.heap.size w1 w') := fun w1 B aao ac hb hW o => (HM.out _ B aao ac (hb.alloc hb.size o) (HWA.out _ B aao ac hW o)).mono fun e w' ⟨h1, h2, _⟩ => ⟨h2 hcl, ((Below.refl _ _).alloc (Nat.le_refl _) o).trans (h1.mono (by simp))⟩
      generalize (aheadL l).length = an at *; rw [<- hlen]; generalize now.length = ln at *; generalize l.length = n at *; clear hrd hT hV hL hX hc hcx HM HM2 HWA hcl hft hz h6 hlen
      go_enter Tryz.func85, Tryz.ntmps85
      go_wp2_with (first | (go_at_call 58; refine hrd2.mono ?_; rintro e w1 ⟨hb1, B, aao, ac, rfl, HW⟩; have hme := HM3.out w1 B aao ac hb1 HW.out) | (go_at_call 64; refine (hme _).mono ?_; rintro e w2 ⟨rfl, hb2⟩))
      go_ret2
      exact ⟨rfl, hb1.trans (hb2.mono hb1.size)⟩
    · have ht1 : tcode l now claim = 0 := tcode_ok hc hcl
      have hft : fcode l now claim next later = tcode l next later := by unfold fcode; rw [if_neg (by simpa using hlen), ht1]; rfl
      have HM3 : Hid (∀ w1 B aao ac, Below w.heap.size w w1 -> WholeAt w1 (.slice oo l.length oc) B (.slice aao (aheadL l).length ac) l -> Calls Tryz.prog 64 #[.agg #[.slice oo l.length oc, .slice (some ⟨B, 0, none⟩) l.length l.length, .slice aao (aheadL l).length ac], .slice no now.length nc, .int .i64 claim] (w1.alloc (.cells #[.slice oo l.length oc, .slice (some ⟨B, 0, none⟩) l.length l.length, .slice aao (aheadL l).length ac] 128)) fun e w' => ∃ bH, e = .returned (.tuple #[.slice (some ⟨bH, 0, none⟩) l.length l.length, .int .i64 0]) /\ Below w1.heap.size w1 w' /\ w1.heap.size < w'.heap.size /\ w'.cell? ⟨w1.heap.size, 0, none⟩ = some (.slice oo l.length oc) /\ w'.cell? ⟨w1.heap.size, 1, none⟩ = some (.slice (some ⟨B, 0, none⟩) l.length l.length) /\ w'.cell? ⟨w1.heap.size, 2, none⟩ = some (.slice aao (aheadL l).length ac) /\ Hid (WholeAt w' (.slice oo l.length oc) B (.slice aao (aheadL l).length ac) l /\ w'.rowIs bH 4 l.length (fun j => .bool (tru l now claim j)))) := fun w1 B aao ac hb hW => (HM.out _ B aao ac (hb.alloc hb.size _) (HWA.out _ B aao ac hW _)).mono fun e w' ⟨h1, _, h3⟩ => by
        obtain ⟨bH, he, hr⟩ := h3 hcl; have h1' : Below (w1.heap.size + 1) (w1.alloc (.cells #[.slice oo l.length oc, .slice (some ⟨B, 0, none⟩) l.length l.length, .slice aao (aheadL l).length ac] 128)) w' := by simpa using h1
        have hb' : Below w1.heap.size w1 w' := ((Below.refl _ _).alloc (Nat.le_refl _) _).trans (h1'.mono (Nat.le_succ _))
        refine ⟨bH, he, hb', by have := h1'.size; simp at this; omega, (h1'.cell (p := ⟨w1.heap.size, 0, none⟩) (Nat.lt_succ_self _)).trans (by simp [go_sem]), (h1'.cell (p := ⟨w1.heap.size, 1, none⟩) (Nat.lt_succ_self _)).trans (by simp [go_sem]), (h1'.cell (p := ⟨w1.heap.size, 2, none⟩) (Nat.lt_succ_self _)).trans (by simp [go_sem]), hW.below hb', hr⟩
      by_cases hcl2 : ClaimNo l later
      · have hft2 : fcode l now claim next later = 2 := by rw [hft, tcode_no hcx hcl2]
        rw [folR_bad (by rw [hft2]; decide), hft2]
        have HM4 : Hid (∀ w1 B aao ac, Below w.heap.size w w1 -> WholeAt w1 (.slice oo l.length oc) B (.slice aao (aheadL l).length ac) l -> Calls Tryz.prog 64 #[.agg #[.slice oo l.length oc, .slice (some ⟨B, 0, none⟩) l.length l.length, .slice aao (aheadL l).length ac], .slice xo next.length xc, .int .i64 later] w1 fun e w' => e = .returned (.tuple #[.slice none 0 0, .int .i64 2]) /\ Below w1.heap.size w1 w') := fun w1 B aao ac hb hW => (HM2.out _ B aao ac hb hW).mono fun e w' ⟨h1, h2, _⟩ => ⟨h2 hcl2, h1⟩
        generalize (aheadL l).length = an at *; rw [<- hlen] at HM4 ⊢; generalize now.length = ln at *; generalize hnn : l.length = n at *; clear hrd hT hV hL hX hc hcx HM HM2 HWA hcl hcl2 hft hft2 ht1 hz h6 hlen hnn
        go_enter Tryz.func85, Tryz.ntmps85
        go_wp2_with (first | (go_at_call 58; refine hrd2.mono ?_; rintro e w1 ⟨hb1, B, aao, ac, rfl, HW⟩; have hme := HM3.out w1 B aao ac hb1 HW.out) | (go_at_call 64; refine hme.mono ?_; clear hme; rintro e w2 ⟨bH, rfl, hb2, hs2, d0, d1, d2, HW2⟩; have hb12 := hb1.trans (hb2.mono hb1.size); have hme2 := HM4.out w2 B aao ac hb12 HW2.out.1) | (go_at_call 64; refine hme2.mono ?_; rintro e w3 ⟨rfl, hb3⟩))
        go_ret2
        exact ⟨rfl, hb12.trans (hb3.mono hb12.size)⟩
      · have hft2 : fcode l now claim next later = 0 := by rw [hft, tcode_ok hcx hcl2]
        have HM4 : Hid (∀ w1 B aao ac, Below w.heap.size w w1 -> WholeAt w1 (.slice oo l.length oc) B (.slice aao (aheadL l).length ac) l -> Calls Tryz.prog 64 #[.agg #[.slice oo l.length oc, .slice (some ⟨B, 0, none⟩) l.length l.length, .slice aao (aheadL l).length ac], .slice xo next.length xc, .int .i64 later] w1 fun e w' => ∃ bN, e = .returned (.tuple #[.slice (some ⟨bN, 0, none⟩) l.length l.length, .int .i64 0]) /\ Below w1.heap.size w1 w' /\ Hid (w'.rowIs bN 4 l.length (fun j => .bool (tru l next later j)))) := fun w1 B aao ac hb hW => (HM2.out _ B aao ac hb hW).mono fun e w' ⟨h1, _, h3⟩ => by
          obtain ⟨bN, he, hr⟩ := h3 hcl2; exact ⟨bN, he, h1, hr⟩
        have HYes : Hid (Fol l (tru l now claim) (tru l next later) -> folR l now claim next later = true) := folR_yes hft2; have HNot : Hid (¬ Fol l (tru l now claim) (tru l next later) -> folR l now claim next later = false) := folR_no
        have HFol : Hid (Fol l (tru l now claim) (tru l next later) ↔ ∀ p, p < l.length -> lookB (l.getD p (0, 0)).1 = true -> tru l now claim p = comeAt l (tru l now claim) (tru l next later) p) := Iff.rfl
        have HCo : Hid (∀ w2 B bH bN aao ac p, WholeAt w2 (.slice oo l.length oc) B (.slice aao (aheadL l).length ac) l -> w2.rowIs bH 4 l.length (fun j => .bool (tru l now claim j)) -> w2.rowIs bN 4 l.length (fun j => .bool (tru l next later j)) -> p < l.length -> lookB (l.getD p (0, 0)).1 = true -> Calls Tryz.prog 102 #[.agg #[.slice oo l.length oc, .slice (some ⟨B, 0, none⟩) l.length l.length, .slice aao (aheadL l).length ac], .int .i64 (p : Int), .slice (some ⟨bH, 0, none⟩) l.length l.length, .slice (some ⟨bN, 0, none⟩) l.length l.length] w2 fun e w' => e = .returned (.bool (comeAt l (tru l now claim) (tru l next later) p)) /\ Below w2.heap.size w2 w') := fun w2 B bH bN aao ac p hW hr hr2 hp hk => by
          obtain ⟨b, off, cap, hv, _⟩ := id hW
          injection hv with e1 e2 e3
          subst e1 e3; exact comes_any b off l.length oc B bH bN l _ _ p _ aao _ ac w2 (place_in hW hz hr hp hk) (fun j hj => hr2.cell hj) hr2.lt
        have HG : Hid (∀ w2 B aao ac k, WholeAt w2 (.slice oo l.length oc) B (.slice aao (aheadL l).length ac) l -> k < (aheadL l).length -> ∃ p : Nat, (∃ ab aoff, aao = some ⟨ab, aoff, none⟩ /\ ab < w2.heap.size /\ w2.cell? ⟨ab, aoff + k, none⟩ = some (.int .i64 (p : Int))) /\ p < l.length /\ lookB (l.getD p (0, 0)).1 = true /\ (aheadTo l p).length = k) := fun w2 B aao ac k hW hk => by
          obtain ⟨_, _, _, _, _, _, _, ao', ac', hsl, hai⟩ := hW
          injection hsl with e1 e2 e3
          subst e1; obtain ⟨ab, aoff, rfl, habl, haat⟩ := hai (by intro h; rw [h] at hk; simp at hk)
          obtain ⟨p, h1, h2, h3, h4⟩ := aheadTo_get l l.length k hk; have h1' : (aheadL l).getD k 0 = (p : Int) := h1; exact ⟨p, ⟨ab, aoff, rfl, habl, by rw [haat k hk, h1']⟩, h2, h3, h4⟩
        have HLt : Hid (∀ p, p < l.length -> lookB (l.getD p (0, 0)).1 = true -> (aheadTo l p).length < (aheadL l).length) := fun p hp hk => aheadTo_lt l hp hk
        have HUq : Hid (∀ p q, lookB (l.getD p (0, 0)).1 = true -> lookB (l.getD q (0, 0)).1 = true -> (aheadTo l p).length = (aheadTo l q).length -> p = q) := fun p q h1 h2 he => by
          rcases Nat.lt_trichotomy p q with h | h | h
          · have := aheadTo_lt l h h1; omega
          · exact h
          · have := aheadTo_lt l h h2; omega
        rw [hft2]; generalize folR l now claim next later = fr at *; generalize comeAt l (tru l now claim) (tru l next later) = cm at *; generalize Fol l (tru l now claim) (tru l next later) = FP at *; generalize tru l now claim = tn at *; generalize tru l next later = tx at *; obtain ⟨an, han⟩ : ∃ an, an = (aheadL l).length := ⟨_, rfl⟩
        rw [<- han] at hrd2 HM3 HM4 HCo HG HLt h6; rw [<- hlen] at HM4 ⊢; generalize now.length = ln at *; generalize hnn : l.length = n at *; clear hrd hT hV hL hX hc hcx HM HM2 HWA hcl hcl2 hft hft2 ht1 hz hlen hnn han
        go_enter Tryz.func85, Tryz.ntmps85
        go_wp2_with (first | (go_at_call 58; refine hrd2.mono ?_; rintro e w1 ⟨hb1, B, aao, ac, rfl, HW⟩; have hme := HM3.out w1 B aao ac hb1 HW.out) | (go_at_call 64; refine hme.mono ?_; clear hme; rintro e w2 ⟨bH, rfl, hb2, hs2, d0, d1, d2, HW2⟩; have hb12 := hb1.trans (hb2.mono hb1.size); have hme2 := HM4.out w2 B aao ac hb12 HW2.out.1) | (go_at_call 64; refine hme2.mono ?_; clear hme2; rintro e w3 ⟨bN, rfl, hb3, HN3⟩; have g0 := (hb3.cell (p := ⟨w1.heap.size, 0, none⟩) hs2).trans d0; have g1 := (hb3.cell (p := ⟨w1.heap.size, 1, none⟩) hs2).trans d1; have g2 := (hb3.cell (p := ⟨w1.heap.size, 2, none⟩) hs2).trans d2))
        have hb13 := hb12.trans (hb3.mono hb12.size); have hs3 := Nat.lt_of_lt_of_le hs2 hb3.size; have HW3 : Hid (WholeAt w3 (.slice oo n oc) B (.slice aao an ac) l /\ w3.rowIs bH 4 n (fun j => .bool (tn j))) := ⟨HW2.out.1.below hb3, row_later HW2.out.2 hb3⟩
        clear hrd2 HM3 HM4 HW HW2 d0 d1 d2
        go_loopw [56] (fun i wr => ∃ k : Nat, k <= an /\ i = .int .i64 (k : Int) /\ Hid (∀ p, p < n -> lookB (l.getD p (0, 0)).1 = true -> (aheadTo l p).length < k -> tn p = cm p) /\ Hid (Below w3.heap.size w3 wr)) (fun i _ => an - (intOf i).toNat)
        case atStart => exact ⟨0, Nat.zero_le _, rfl, fun p _ _ h => absurd h (Nat.not_lt_zero _), Below.refl _ _⟩
        case round =>
          obtain ⟨k, hk, rfl, HAll, HBel⟩ := hrel; have hbel := HBel.out
          by_cases hlt : k < an
          · have hWr := HW3.out.1.below hbel
            obtain ⟨p, ⟨ab, aoff, rfl, habl, hca⟩, hpn, hpk, hpi⟩ := HG.out wr B aao ac k hWr hlt; have hco := HCo.out
            have HSt : Hid (∀ w', Below wr.heap.size wr w' -> w'.cell? ⟨w1.heap.size, 0, none⟩ = some (.slice oo n oc) /\ w'.cell? ⟨w1.heap.size, 1, none⟩ = some (.slice (some ⟨B, 0, none⟩) n n) /\ w'.cell? ⟨w1.heap.size, 2, none⟩ = some (.slice (some ⟨ab, aoff, none⟩) an ac) /\ w'.cell? ⟨bH, p, none⟩ = some (.bool (tn p)) /\ Below wr.heap.size wr w') := fun w' hb => by
              have hbw := hbel.trans (hb.mono hbel.size); have hr := row_later HW3.out.2 hbw; exact ⟨(hbw.cell (p := ⟨w1.heap.size, 0, none⟩) hs3).trans g0, (hbw.cell (p := ⟨w1.heap.size, 1, none⟩) hs3).trans g1, (hbw.cell (p := ⟨w1.heap.size, 2, none⟩) hs3).trans g2, hr.cell hpn, hb⟩
            have hcc := fun w' (hb : Below wr.heap.size wr w') => HCo.out w' B bH bN _ ac p (hWr.below hb) (row_later (row_later HW3.out.2 hbel) hb) (row_later (row_later HN3.out hbel) hb) hpn hpk
            have hS := HSt.out; have hB0 : Below wr.heap.size wr wr := Below.refl _ _
            have HNext : Hid (tn p = cm p -> ∀ q, q < n -> lookB (l.getD q (0, 0)).1 = true -> (aheadTo l q).length < k + 1 -> tn q = cm q) := fun he q hq hqk hql => by
              by_cases h : (aheadTo l q).length < k
              · exact HAll.out q hq hqk h
              · have hqp : q = p := HUq.out q p hqk hpk (by omega)
                rw [hqp]; exact he
            have HBad : Hid (tn p ≠ cm p -> fr = false) := fun h => HNot.out fun hf => h (HFol.out.1 hf p hpn hpk)
            have hp0 : (0 : Int) <= (p : Int) := Int.natCast_nonneg _; have hpI : (p : Int) < (n : Int) := by omega
            generalize tn p = tv at *; generalize cm p = cv at *; clear HG HCo HAll HNot HYes HFol HLt HUq hco HSt hWr hpk hpi
            by_cases htv : tv = cv
            · have HNx := (show Hid _ from HNext.out htv)
              subst htv; clear HNext HBad
              go_wp2_with fail
              go_region_held3 (fun w' => w'.cell? ⟨w1.heap.size, 0, none⟩ = some (.slice oo n oc) /\ w'.cell? ⟨w1.heap.size, 1, none⟩ = some (.slice (some ⟨B, 0, none⟩) n n) /\ w'.cell? ⟨w1.heap.size, 2, none⟩ = some (.slice (some ⟨ab, aoff, none⟩) an ac) /\ w'.cell? ⟨bH, p, none⟩ = some (.bool tv) /\ Below wr.heap.size wr w')
                (exact hS _ (by first | exact hB0 | exact hB0.drew | exact hB0.drew.trans hb4))
                (first | (go_at_call 102; refine (hcc _ hB0.drew).mono ?_; rintro e w4 ⟨rfl, hb4⟩))
              go_wp2_with fail
              have hbf := hbel.trans ((hB0.drew.trans hb4).mono hbel.size); exact ⟨⟨k + 1, hlt, by first | rfl | simp, HNx.out, hbf⟩, by simp [intOf]; omega⟩
            · have HF := (show Hid _ from HBad.out htv)
              clear HNext HBad
              cases tv <;> cases cv
              · exact absurd rfl htv
              · go_wp2_with fail
                go_region_held3 (fun w' => w'.cell? ⟨w1.heap.size, 0, none⟩ = some (.slice oo n oc) /\ w'.cell? ⟨w1.heap.size, 1, none⟩ = some (.slice (some ⟨B, 0, none⟩) n n) /\ w'.cell? ⟨w1.heap.size, 2, none⟩ = some (.slice (some ⟨ab, aoff, none⟩) an ac) /\ w'.cell? ⟨bH, p, none⟩ = some (.bool false) /\ Below wr.heap.size wr w')
                  (exact hS _ (by first | exact hB0 | exact hB0.drew | exact hB0.drew.trans hb4))
                  (first | (go_at_call 102; refine (hcc _ hB0.drew).mono ?_; rintro e w4 ⟨rfl, hb4⟩))
                go_wp2_with fail
                have hbf := hbel.trans ((hB0.drew.trans hb4).mono hbel.size)
                go_ret2
                rw [HF.out]; exact ⟨rfl, hb13.trans (hbf.mono hb13.size)⟩
              · go_wp2_with fail
                go_region_held3 (fun w' => w'.cell? ⟨w1.heap.size, 0, none⟩ = some (.slice oo n oc) /\ w'.cell? ⟨w1.heap.size, 1, none⟩ = some (.slice (some ⟨B, 0, none⟩) n n) /\ w'.cell? ⟨w1.heap.size, 2, none⟩ = some (.slice (some ⟨ab, aoff, none⟩) an ac) /\ w'.cell? ⟨bH, p, none⟩ = some (.bool true) /\ Below wr.heap.size wr w')
                  (exact hS _ (by first | exact hB0 | exact hB0.drew | exact hB0.drew.trans hb4))
                  (first | (go_at_call 102; refine (hcc _ hB0.drew).mono ?_; rintro e w4 ⟨rfl, hb4⟩))
                go_wp2_with fail
                have hbf := hbel.trans ((hB0.drew.trans hb4).mono hbel.size)
                go_ret2
                rw [HF.out]; exact ⟨rfl, hb13.trans (hbf.mono hb13.size)⟩
              · exact absurd rfl htv
          · obtain rfl : k = an := by omega
            have HFr : Hid (fr = true) := HYes.out (HFol.out.2 fun p hp hpk => HAll.out p hp hpk (HLt.out p hp hpk))
            clear HG HCo HAll HNot HYes HFol HLt HUq
            go_wp2_with fail
            go_ret2
            rw [HFr.out]; exact ⟨rfl, hb13.trans (hbel.mono hb13.size)⟩
  · have hft : fcode l now claim next later = lcode now.length l := by unfold fcode; rw [if_neg (by simpa using hlen), tcode_bad hc, if_pos hc]
    rw [folR_bad (by rw [hft]; exact hc), hft]
    have hrd2 : Calls Tryz.prog 58 #[.slice oo l.length oc, .int .i64 (now.length : Int)] w fun e w' => Below w.heap.size w w' /\ e = .returned (.tuple #[.agg #[.slice none 0 0, .slice none 0 0, .slice none 0 0], .int .i64 (lcode now.length l)]) := hrd.mono fun e w' ⟨h1, h2, _⟩ => ⟨h1, h2 hc⟩
    rw [<- hlen]; generalize lcode now.length l = x at *; generalize now.length = ln at *; generalize l.length = n at *; clear hrd hT hV hL hX hft hlen
    go_enter Tryz.func85, Tryz.ntmps85
    go_wp2_with (go_at_call 58; refine hrd2.mono ?_; rintro e w1 ⟨hb1, rfl⟩)
    go_ret2
    exact ⟨rfl, by first | exact hb1 | exact hb1.alloc hb1.size _⟩
theorem lfol_any (v nv xv : Value) (l : List (Int × Int)) (now next : List Bool) (claim later : Int) (w : World) (hB : 0 < w.heap.size) (hT : TabAt w) (hV : OpsV w v l) (hL : BoolsV w nv now) (hX : BoolsV w xv next) :
    Calls Tryz.prog 85 #[v, nv, .int .i64 claim, xv, .int .i64 later] w fun e w' => e = .returned (.tuple #[.bool (folR l now claim next later), .int .i64 (fcode l now claim next later)]) /\ Below w.heap.size w w' := by
  obtain ⟨oo, oc, rfl, _⟩ := id hV; obtain ⟨no, nc, rfl, _⟩ := id hL; obtain ⟨xo, xc, rfl, _⟩ := id hX
  by_cases hlen : now.length = next.length
  · exact fol_main oo oc l no xo nc xc now next claim later w hB hT hV hL hX hlen
  · have hf : fcode l now claim next later = 1 := by unfold fcode; rw [if_pos hlen]
    rw [folR_bad (by rw [hf]; decide), hf]
    exact fol_len _ no xo _ nc _ xc claim later oo l.length oc rfl w hlen
end Go.Proofs.YtobopjjmhginlaaGreatDoor
