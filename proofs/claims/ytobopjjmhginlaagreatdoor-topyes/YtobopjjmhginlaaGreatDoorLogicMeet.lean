import Derived.Test.YtobopjjmhginlaaGreatDoorLogicWait
namespace Go.Proofs.YtobopjjmhginlaaGreatDoor
open Go.ChangeShapes Go.WideShapes Go.ChangeAt Go.RowKit Go.Deep
open Terms
set_option maxHeartbeats 6400000
set_option maxRecDepth 20000
def waitAt (l : List (Int × Int)) (h : Nat -> Bool) (p : Nat) : Bool := waitB (l.getD p (0, 0)).1 (h p) (h (p + 1)) (h (sec l p))
def metTo (l : List (Int × Int)) (h : Nat -> Bool) : Nat -> Int
  | 0 => 0
  | k + 1 => metTo l h k + if waitAt l h ((aheadL l).getD k 0).toNat = true then 0 else 2 ^ k
theorem metTo_bounds (l : List (Int × Int)) (h : Nat -> Bool) : ∀ k, 0 <= metTo l h k /\ metTo l h k < 2 ^ k := by
  intro k
  induction k with
  | zero => simp [metTo]
  | succ k ih =>
    have h2 : (0 : Int) < 2 ^ k := Int.pow_pos (by decide)
    simp only [metTo]; rw [Int.pow_succ]
    split <;> omega
theorem or_small : ∀ k, k < 6 -> ∀ c, c < 2 ^ k -> bits BinOp.or IntKind.i64 ((c : Nat) : Int) (2 ^ k) = ((c : Nat) : Int) + 2 ^ k := by decide
theorem or_bit {c : Int} {k : Nat} (hk : k < 6) (h0 : 0 <= c) (h1 : c < 2 ^ k) : bits BinOp.or IntKind.i64 c (2 ^ k) = c + 2 ^ k := by
  obtain ⟨m, rfl⟩ : ∃ m : Nat, c = m := ⟨c.toNat, by omega⟩
  refine or_small k hk m ?_
  have e : ((2 ^ k : Nat) : Int) = 2 ^ k := by simp
  omega
theorem pow_small {k : Nat} (hk : k <= 6) : (2 : Int) ^ k <= 64 := by
  have hcase : k = 0 \/ k = 1 \/ k = 2 \/ k = 3 \/ k = 4 \/ k = 5 \/ k = 6 := by omega
  rcases hcase with rfl | rfl | rfl | rfl | rfl | rfl | rfl <;> decide
noncomputable def metN (l : List (Int × Int)) (letter : List Bool) (claim : Int) : Int := if tcode l letter claim = 0 then metTo l (tru l letter claim) (aheadL l).length else 0
theorem place_in {w : World} {b off cap B bH : Nat} {av : Value} {l : List (Int × Int)} {h : Nat -> Bool} (hW : WholeAt w (.slice (some ⟨b, off, none⟩) l.length cap) B av l) (hz : endsCode (l.map Prod.fst) = 0) (hr : w.rowIs bH 4 l.length (fun j => .bool (h j))) {p : Nat} (hp : p < l.length) (hk : lookB (l.getD p (0, 0)).1 = true) : PlaceIn w b off l.length cap B bH l h p (l.getD p (0, 0)).1 := by
  obtain ⟨b', off', cap', hv, hbl, hat, hrow, _⟩ := hW
  injection hv with e1 e2 e3
  injection Option.some.inj e1 with e4 e5
  subst e4 e5; obtain ⟨hne, h60⟩ := ends_ne hz; rw [List.length_map] at h60; obtain ⟨h1, h2⟩ := part_in hz hp; have hk' : 14 <= (l.getD p (0, 0)).1 /\ (l.getD p (0, 0)).1 <= 18 := by simpa [lookB] using hk
  have hpn : 1 <= pn (l.getD p (0, 0)).1 := by
    unfold pn
    split
    · omega
    · split
      · omega
      · omega
  exact ⟨h60, hp, h1 hpn, fun e => (h2 (by rcases e with e | e <;> rw [e] <;> rfl)).2, (hat p hp).1, hbl, fun j hj => hr.cell hj, hr.lt, fun j hj => hrow.cell hj, hrow.lt⟩
theorem lmeets_any (v lv : Value) (l : List (Int × Int)) (letter : List Bool) (claim : Int) (w : World) (hB : 0 < w.heap.size) (hT : TabAt w) (hV : OpsV w v l) (hL : BoolsV w lv letter) :
    Calls Tryz.prog 67 #[v, lv, .int .i64 claim] w fun e w' => e = .returned (.tuple #[.int .i64 (metN l letter claim), .int .i64 (tcode l letter claim)]) /\ Below w.heap.size w w' := by
  have hrd := lread2 v l letter.length w hB hT hV; obtain ⟨lo, lc, rfl, hl⟩ := id hL; obtain ⟨oo, oc, rfl, _⟩ := id hV
  by_cases hc : lcode letter.length l = 0
  · obtain ⟨_, _, hz, _, h6⟩ := lcode_zero hc
    have hrd2 : Calls Tryz.prog 58 #[.slice oo l.length oc, .int .i64 (letter.length : Int)] w fun e w' => Below w.heap.size w w' /\ ∃ B aao ac, e = .returned (.tuple #[.agg #[.slice oo l.length oc, .slice (some ⟨B, 0, none⟩) l.length l.length, .slice aao (aheadL l).length ac], .int .i64 0]) /\ Hid (WholeAt w' (.slice oo l.length oc) B (.slice aao (aheadL l).length ac) l) := hrd.mono fun e w' ⟨h1, _, h3⟩ => ⟨h1, h3 hc⟩
    have HM : Hid (∀ w1 B aao ac, Below w.heap.size w w1 -> WholeAt w1 (.slice oo l.length oc) B (.slice aao (aheadL l).length ac) l -> Calls Tryz.prog 64 #[.agg #[.slice oo l.length oc, .slice (some ⟨B, 0, none⟩) l.length l.length, .slice aao (aheadL l).length ac], .slice lo letter.length lc, .int .i64 claim] (w1.alloc (.cells #[.slice oo l.length oc, .slice (some ⟨B, 0, none⟩) l.length l.length, .slice aao (aheadL l).length ac] 128)) fun e w' => Below (w1.heap.size + 1) (w1.alloc (.cells #[.slice oo l.length oc, .slice (some ⟨B, 0, none⟩) l.length l.length, .slice aao (aheadL l).length ac] 128)) w' /\ (ClaimNo l claim -> e = .returned (.tuple #[.slice none 0 0, .int .i64 2])) /\ (¬ ClaimNo l claim -> ∃ bH, e = .returned (.tuple #[.slice (some ⟨bH, 0, none⟩) l.length l.length, .int .i64 0]) /\ Hid (w'.rowIs bH 4 l.length (fun j => .bool (tru l letter claim j))))) := fun w1 B aao ac hb hW => by
      have hA : ∀ o, Below w1.heap.size w1 (w1.alloc o) := fun o => (Below.refl _ _).alloc (Nat.le_refl _) o
      refine (meth_any _ B _ _ l letter claim (w1.alloc _) hc (hW.below (hA _)) ((hL.below hb).below (hA _))).mono fun e w' ⟨h1, h2, h3⟩ => ⟨?_, h2, h3⟩
      simpa using h1
    by_cases hcl : ClaimNo l claim
    · have htc : tcode l letter claim = 2 := tcode_no hc hcl
      rw [htc, show metN l letter claim = 0 by unfold metN; rw [htc]; rfl]
      have HM2 : Hid (∀ w1 B aao ac, Below w.heap.size w w1 -> WholeAt w1 (.slice oo l.length oc) B (.slice aao (aheadL l).length ac) l -> Calls Tryz.prog 64 #[.agg #[.slice oo l.length oc, .slice (some ⟨B, 0, none⟩) l.length l.length, .slice aao (aheadL l).length ac], .slice lo letter.length lc, .int .i64 claim] (w1.alloc (.cells #[.slice oo l.length oc, .slice (some ⟨B, 0, none⟩) l.length l.length, .slice aao (aheadL l).length ac] 128)) fun e w' => e = .returned (.tuple #[.slice none 0 0, .int .i64 2]) /\ Below w1.heap.size w1 w') := fun w1 B aao ac hb hW => (HM.out w1 B aao ac hb hW).mono fun e w' ⟨h1, h2, _⟩ => ⟨h2 hcl, ((Below.refl _ _).alloc (Nat.le_refl _) _).trans (h1.mono (Nat.le_succ _))⟩
      generalize (aheadL l).length = an at *; generalize letter.length = ln at *; generalize l.length = n at *; clear hrd hT hV hL hl hc HM hcl htc hz h6
      go_enter Tryz.func67, Tryz.ntmps67
      go_wp2_with (first | (go_at_call 58; refine hrd2.mono ?_; rintro e w1 ⟨hb1, B, aao, ac, rfl, HW⟩; have hme := HM2.out w1 B aao ac hb1 HW.out) | (go_at_call 64; refine hme.mono ?_; rintro e w2 ⟨rfl, hb2⟩))
      go_ret2
      exact ⟨rfl, hb1.trans (hb2.mono hb1.size)⟩
    · have htc : tcode l letter claim = 0 := tcode_ok hc hcl
      rw [htc, show metN l letter claim = metTo l (tru l letter claim) (aheadL l).length by unfold metN; rw [htc]; rfl]
      have HM2 : Hid (∀ w1 B aao ac, Below w.heap.size w w1 -> WholeAt w1 (.slice oo l.length oc) B (.slice aao (aheadL l).length ac) l -> Calls Tryz.prog 64 #[.agg #[.slice oo l.length oc, .slice (some ⟨B, 0, none⟩) l.length l.length, .slice aao (aheadL l).length ac], .slice lo letter.length lc, .int .i64 claim] (w1.alloc (.cells #[.slice oo l.length oc, .slice (some ⟨B, 0, none⟩) l.length l.length, .slice aao (aheadL l).length ac] 128)) fun e w' => ∃ bH, e = .returned (.tuple #[.slice (some ⟨bH, 0, none⟩) l.length l.length, .int .i64 0]) /\ Below w1.heap.size w1 w' /\ w1.heap.size < w'.heap.size /\ w'.cell? ⟨w1.heap.size, 0, none⟩ = some (.slice oo l.length oc) /\ w'.cell? ⟨w1.heap.size, 1, none⟩ = some (.slice (some ⟨B, 0, none⟩) l.length l.length) /\ w'.cell? ⟨w1.heap.size, 2, none⟩ = some (.slice aao (aheadL l).length ac) /\ Hid (WholeAt w' (.slice oo l.length oc) B (.slice aao (aheadL l).length ac) l /\ w'.rowIs bH 4 l.length (fun j => .bool (tru l letter claim j)))) := fun w1 B aao ac hb hW => (HM.out w1 B aao ac hb hW).mono fun e w' ⟨h1, _, h3⟩ => by
        obtain ⟨bH, he, hr⟩ := h3 hcl; have hb' : Below w1.heap.size w1 w' := ((Below.refl _ _).alloc (Nat.le_refl _) _).trans (h1.mono (Nat.le_succ _))
        refine ⟨bH, he, hb', by have := h1.size; simp at this; omega, (h1.cell (p := ⟨w1.heap.size, 0, none⟩) (Nat.lt_succ_self _)).trans (by simp [go_sem]), (h1.cell (p := ⟨w1.heap.size, 1, none⟩) (Nat.lt_succ_self _)).trans (by simp [go_sem]), (h1.cell (p := ⟨w1.heap.size, 2, none⟩) (Nat.lt_succ_self _)).trans (by simp [go_sem]), hW.below hb', hr.out⟩
      have HWa : Hid (∀ w2 B bH aao ac p, WholeAt w2 (.slice oo l.length oc) B (.slice aao (aheadL l).length ac) l -> w2.rowIs bH 4 l.length (fun j => .bool (tru l letter claim j)) -> p < l.length -> lookB (l.getD p (0, 0)).1 = true -> Calls Tryz.prog 86 #[.agg #[.slice oo l.length oc, .slice (some ⟨B, 0, none⟩) l.length l.length, .slice aao (aheadL l).length ac], .int .i64 (p : Int), .slice (some ⟨bH, 0, none⟩) l.length l.length] w2 fun e w' => e = .returned (.bool (waitAt l (tru l letter claim) p)) /\ Below w2.heap.size w2 w') := fun w2 B bH aao ac p hW hr hp hk => by
        obtain ⟨b, off, cap, hv, _⟩ := id hW
        injection hv with e1 e2 e3
        subst e1 e3; exact waits_any b off l.length oc B bH l _ p _ aao _ ac w2 (place_in hW hz hr hp hk)
      have HG : Hid (∀ w2 B aao ac k, WholeAt w2 (.slice oo l.length oc) B (.slice aao (aheadL l).length ac) l -> k < (aheadL l).length -> ∃ p : Nat, (∃ ab aoff, aao = some ⟨ab, aoff, none⟩ /\ w2.cell? ⟨ab, aoff + k, none⟩ = some (.int .i64 (p : Int))) /\ p < l.length /\ lookB (l.getD p (0, 0)).1 = true /\ ((aheadL l).getD k 0).toNat = p) := fun w2 B aao ac k hW hk => by
        obtain ⟨_, _, _, _, _, _, _, ao', ac', hsl, hai⟩ := hW
        injection hsl with e1 e2 e3
        subst e1; obtain ⟨ab, aoff, rfl, habl, haat⟩ := hai (by intro h; rw [h] at hk; simp at hk)
        obtain ⟨p, h1, h2, h3, h4⟩ := aheadTo_get l l.length k hk; have h1' : (aheadL l).getD k 0 = (p : Int) := h1; exact ⟨p, ⟨ab, aoff, rfl, by rw [haat k hk, h1']⟩, h2, h3, by rw [h1']; rfl⟩
      have HMS : Hid (∀ k, metTo l (tru l letter claim) (k + 1) = metTo l (tru l letter claim) k + if waitAt l (tru l letter claim) ((aheadL l).getD k 0).toNat = true then 0 else 2 ^ k) := fun _ => rfl
      have HMB : Hid (∀ k, 0 <= metTo l (tru l letter claim) k /\ metTo l (tru l letter claim) k < 2 ^ k) := metTo_bounds _ _
      have HM0 : Hid (metTo l (tru l letter claim) 0 = 0) := rfl; generalize metTo l (tru l letter claim) = mt at *; generalize hwt : waitAt l (tru l letter claim) = wt at *; clear hwt; obtain ⟨an, han⟩ : ∃ an, an = (aheadL l).length := ⟨_, rfl⟩
      rw [<- han] at hrd2 HM2 HWa HG h6 ⊢; generalize hnn : l.length = n at *; generalize letter.length = ln at *; clear hrd hT hV hL hl hc HM hcl htc hz hnn han
      go_enter Tryz.func67, Tryz.ntmps67
      go_wp2_with (first | (go_at_call 58; refine hrd2.mono ?_; rintro e w1 ⟨hb1, B, aao, ac, rfl, HW⟩; have hme := HM2.out w1 B aao ac hb1 HW.out) | (go_at_call 64; refine hme.mono ?_; rintro e w2 ⟨bH, rfl, hb2, hs2, d0, d1, d2, HW2⟩))
      have hb12 := hb1.trans (hb2.mono hb1.size); clear hrd2 hme HM2 HW
      go_loopw [11, 37] (fun mv i wr => ∃ k : Nat, k <= an /\ i = .int .i64 (k : Int) /\ mv = .int .i64 (mt k) /\ Hid (Below w2.heap.size w2 wr)) (fun _ i _ => an - (intOf i).toNat)
      case atStart => exact ⟨0, Nat.zero_le _, rfl, by rw [HM0.out], Below.refl _ _⟩
      case round =>
        obtain ⟨k, hk, rfl, rfl, HBel⟩ := hrel; have hbel := HBel.out; have d0' := (hbel.cell (p := ⟨w1.heap.size, 0, none⟩) hs2).trans d0; have d1' := (hbel.cell (p := ⟨w1.heap.size, 1, none⟩) hs2).trans d1; have d2' := (hbel.cell (p := ⟨w1.heap.size, 2, none⟩) hs2).trans d2
        by_cases hlt : k < an
        · have hWr := HW2.out.1.below hbel
          obtain ⟨p, ⟨ab, aoff, rfl, hca⟩, hpn, hpk, hpi⟩ := HG.out wr B aao ac k hWr hlt; have hwa := HWa.out wr B bH _ ac p hWr (row_later HW2.out.2 hbel) hpn hpk; have HS := (show Hid _ from HMS.out k)
          rw [hpi] at HS; obtain ⟨hm0, hm1⟩ := HMB.out k; have hk6 : k < 6 := by omega
          have hps := pow_small (k := k) (by omega)
          have h2k : (0 : Int) < 2 ^ k := Int.pow_pos (by decide)
          have HOr : Hid (bits BinOp.or IntKind.i64 (mt k) (2 ^ k) = mt k + 2 ^ k) := or_bit hk6 hm0 hm1; generalize wt p = wv at *; clear HWa HG HMS HMB hpi hpk HW2 hWr
          cases wv with
          | true =>
            have HS2 : Hid (mt (k + 1) = mt k) := by show _ = _; rw [HS.out]; simp
            clear HS
            go_wp2_with (go_at_call 86; refine hwa.mono ?_; rintro e w3 ⟨rfl, hb3⟩)
            exact ⟨⟨k + 1, hlt, by first | rfl | simp, by rw [HS2.out], hbel.trans (hb3.mono hbel.size)⟩, by simp [intOf]; omega⟩
          | false =>
            have HS2 : Hid (mt (k + 1) = mt k + 2 ^ k) := by show _ = _; rw [HS.out]; simp
            clear HS
            go_wp2_with (go_at_call 86; refine hwa.mono ?_; rintro e w3 ⟨rfl, hb3⟩)
            exact ⟨⟨k + 1, hlt, by first | rfl | simp, by rw [HS2.out, <- HOr.out], hbel.trans (hb3.mono hbel.size)⟩, by simp [intOf]; omega⟩
        · obtain rfl : k = an := by omega
          go_wp2_with fail
          go_ret2
          exact ⟨rfl, hb12.trans (hbel.mono hb12.size)⟩
  · have htc := tcode_bad (claim := claim) hc
    rw [htc, show metN l letter claim = 0 by unfold metN; rw [htc, if_neg hc]]
    have hrd2 : Calls Tryz.prog 58 #[.slice oo l.length oc, .int .i64 (letter.length : Int)] w fun e w' => Below w.heap.size w w' /\ e = .returned (.tuple #[.agg #[.slice none 0 0, .slice none 0 0, .slice none 0 0], .int .i64 (lcode letter.length l)]) := hrd.mono fun e w' ⟨h1, h2, _⟩ => ⟨h1, h2 hc⟩
    generalize lcode letter.length l = x at *; generalize letter.length = ln at *; generalize l.length = n at *; clear hrd hT hV hL hl htc
    go_enter Tryz.func67, Tryz.ntmps67
    go_wp2_with (go_at_call 58; refine hrd2.mono ?_; rintro e w1 ⟨hb1, rfl⟩)
    go_ret2
    exact ⟨rfl, by first | exact hb1 | exact hb1.alloc hb1.size _⟩
end Go.Proofs.YtobopjjmhginlaaGreatDoor
