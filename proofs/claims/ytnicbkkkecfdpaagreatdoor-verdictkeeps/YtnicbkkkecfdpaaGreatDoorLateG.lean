/-
  Joined out of LogicTru2, LogicTr3, RefAhead, RefTruths, RefSaid, RefSaid2, RefRows, RefMom, RefKeeps, in their order: a claim bears at most so many files.
-/
import Derived.Test.YtnicbkkkecfdpaaGreatDoorLateF
import Derived.Test.YtnicbkkkecfdpaaGreatDoorLateC
import Derived.Test.YtnicbkkkecfdpaaGreatDoorRefLook
import Derived.Test.YtnicbkkkecfdpaaGreatDoorLogicRead
import Derived.Deep.RegionHeld3
import Derived.Test.YtnicbkkkecfdpaaGreatDoorLateB
import Derived.Test.YtnicbkkkecfdpaaGreatDoorLateE
/-
  The contract of logic's method truths.
-/
namespace Go.Proofs.YtnicbkkkecfdpaaGreatDoor
open Go.ChangeShapes Go.WideShapes Go.ChangeAt Go.RowKit Go.Deep Go.Shelf
open Terms

attribute [local go_sem] Oper.semAt_some
/-- the temporaries of a round. -/
def trAct (p3 p4 p8 p11 p12 r0 r1 r2 r5 r6 r7 r9 r10 r13 r14 r15 r16 r17 r18 r19 r20 r21 r22 r23 r24 r25 r26 r27 r28 r29 r30 r31 r32 r33 r34 r35 r36 r37 r38 r39 r40 r41 r42 r43 r44 r45 r46 r47 r48 r49 r50 r51 r52 r53 r54 r55 r56 r57 r58 r59 r60 r61 r62 r63 r64 r65 r66 r67 r68 r69 r70 : Value) : Act := { tmps := #[r0, r1, r2, p3, p4, r5, r6, r7, p8, r9, r10, p11, p12, r13, r14, r15, r16, r17, r18, r19, r20, r21, r22, r23, r24, r25, r26, r27, r28, r29, r30, r31, r32, r33, r34, r35, r36, r37, r38, r39, r40, r41, r42, r43, r44, r45, r46, r47, r48, r49, r50, r51, r52, r53, r54, r55, r56, r57, r58, r59, r60, r61, r62, r63, r64, r65, r66, r67, r68, r69, r70], defers := [] }
/-- what a round begins with. -/
def TrAx (w : World) (s : Nat) (o : Int × Int) (p : Nat) (a' : Act) (W : World) : Prop := ∃ Bx, s ≤ Bx ∧ W.cell? ⟨Bx, 0, none⟩ = some (.int .i64 o.1) ∧ W.cell? ⟨Bx, 1, none⟩ = some (.int .i64 o.2) ∧ ∃ r0 r1 r2 r5 r6 r7 r9 r10 r13 r14 r15 r16 r17 r18 r19 r20 r21 r22 r23 r24 r25 r26 r27 r28 r29 r30 r31 r32 r33 r34 r35 r36 r37 r38 r39 r40 r41 r42 r43 r44 r45 r46 r47 r48 r49 r50 r51 r52 r53 r54 r55 r56 r57 r58 r59 r60 r61 r62 r63 r64 r65 r66 r67 r68 r69 r70 : Value, a' = trAct (.pointer (some ⟨w.heap.size, 0, none⟩)) (.pointer (some ⟨w.heap.size + 1, 0, none⟩)) (.pointer (some ⟨w.heap.size + 1 + 1 + 1, 0, none⟩)) (.int .i64 (p : Int)) (.pointer (some ⟨Bx, 0, none⟩)) r0 r1 r2 r5 r6 r7 r9 r10 r13 r14 r15 r16 r17 r18 r19 r20 r21 r22 r23 r24 r25 r26 r27 r28 r29 r30 r31 r32 r33 r34 r35 r36 r37 r38 r39 r40 r41 r42 r43 r44 r45 r46 r47 r48 r49 r50 r51 r52 r53 r54 r55 r56 r57 r58 r59 r60 r61 r62 r63 r64 r65 r66 r67 r68 r69 r70
set_option maxRecDepth 20000 in
theorem keeps_of_below {B : Nat} {W W' : World} (h : Below W.heap.size W W') : KeepsFrom B W W' := ⟨h.size, fun k _ _ hk _ => (h.block k (Array.getElem?_eq_some_iff.1 hk).1).trans hk⟩
end Go.Proofs.YtnicbkkkecfdpaaGreatDoor

/-
  The contract of logic.Truths.
-/
namespace Go.Proofs.YtnicbkkkecfdpaaGreatDoor
open Go.ChangeShapes Go.WideShapes Go.ChangeAt Go.RowKit Go.Deep
open Terms

/-- a formula that was read. -/
def WholeAt (w : World) (v : Value) (B : Nat) (av : Value) (l : List (Int × Int)) : Prop :=
  ∃ b off cap, v = .slice (some ⟨b, off, none⟩) l.length cap ∧ b < w.heap.size ∧ OpsAt w b off l ∧ w.rowIs B 3 l.length (fun q => .int .i64 (endAt (l.map Prod.fst) q)) ∧ IntsV w av (aheadL l)
set_option maxRecDepth 20000 in
theorem WholeAt.below {w w' : World} {v : Value} {B : Nat} {av : Value} {l : List (Int × Int)} (h : WholeAt w v B av l) (hb : Below w.heap.size w w') : WholeAt w' v B av l := by
  obtain ⟨b, off, cap, h1, h2, h3, h4, h5⟩ := h
  exact ⟨b, off, cap, h1, Nat.lt_of_lt_of_le h2 hb.size, h3.below hb h2, row_later h4 hb, h5.below hb⟩
/-- a claim that is none. -/
def ClaimNo (l : List (Int × Int)) (claim : Int) : Prop := claim < 0 ∨ 2 ^ (aheadL l).length ≤ claim
/-- What the method leaves. -/
def MethPost (l : List (Int × Int)) (letter : List Bool) (claim : Int) (w : World) (e : Ending) (w' : World) : Prop :=
  Below w.heap.size w w' ∧ (ClaimNo l claim → e = .returned (.tuple #[.slice none 0 0, .int .i64 2])) ∧ (¬ ClaimNo l claim → ∃ bH, e = .returned (.tuple #[.slice (some ⟨bH, 0, none⟩) l.length l.length, .int .i64 0]) ∧ w'.rowIs bH 4 l.length (fun j => .bool (tru l letter claim j)))
/-- what Truths answers. -/
noncomputable def tcode (l : List (Int × Int)) (letter : List Bool) (claim : Int) : Int := by classical exact if lcode letter.length l = 0 then (if ClaimNo l claim then 2 else 0) else lcode letter.length l
noncomputable def truL (l : List (Int × Int)) (letter : List Bool) (claim : Int) : List Bool := if tcode l letter claim = 0 then (List.range l.length).map (tru l letter claim) else []
set_option maxRecDepth 20000 in
theorem tcode_bad {l : List (Int × Int)} {letter : List Bool} {claim : Int} (h : lcode letter.length l ≠ 0) : tcode l letter claim = lcode letter.length l := by unfold tcode; rw [if_neg h]
set_option maxRecDepth 20000 in
theorem tcode_no {l : List (Int × Int)} {letter : List Bool} {claim : Int} (h : lcode letter.length l = 0) (h2 : ClaimNo l claim) : tcode l letter claim = 2 := by unfold tcode; rw [if_pos h, if_pos h2]
set_option maxRecDepth 20000 in
theorem tcode_ok {l : List (Int × Int)} {letter : List Bool} {claim : Int} (h : lcode letter.length l = 0) (h2 : ¬ ClaimNo l claim) : tcode l letter claim = 0 := by unfold tcode; rw [if_pos h, if_neg h2]
set_option maxRecDepth 20000 in
theorem boolsV_tru {w : World} {bH : Nat} {l : List (Int × Int)} {letter : List Bool} {claim : Int} (h : w.rowIs bH 4 l.length (fun j => .bool (tru l letter claim j))) : BoolsV w (.slice (some ⟨bH, 0, none⟩) l.length l.length) ((List.range l.length).map (tru l letter claim)) := by
  have h2 := boolsV_of_row (w := w) (B := bH) (l := (List.range l.length).map (tru l letter claim)) (by
    rw [List.length_map, List.length_range]
    exact h.congr fun j hj => by simp [List.getD_eq_getElem?_getD, hj])
  rwa [List.length_map, List.length_range] at h2

set_option maxRecDepth 20000 in
/-- What read leaves, in one form. -/
theorem lread2 (v : Value) (l : List (Int × Int)) (props : Int) (w : World) (hB : 0 < w.heap.size) (hT : TabAt w) (hV : OpsV w v l) :
    Calls Tryz.prog 37 #[v, .int .i64 props] w fun e w' => Below w.heap.size w w' ∧ (lcode props l ≠ 0 → e = .returned (.tuple #[.agg #[.slice none 0 0, .slice none 0 0, .slice none 0 0], .int .i64 (lcode props l)])) ∧ (lcode props l = 0 → ∃ B aao ac, e = .returned (.tuple #[.agg #[v, .slice (some ⟨B, 0, none⟩) l.length l.length, .slice aao (aheadL l).length ac], .int .i64 0]) ∧ Hid (WholeAt w' v B (.slice aao (aheadL l).length ac) l)) := by
  refine (lread_any v l props w hB hT hV).mono fun e w' ⟨h1, h2, h3⟩ => ⟨h1, h2, fun hz => ?_⟩
  obtain ⟨B, av, _, he, hrow, ho⟩ := h3 hz
  obtain ⟨aao, ac, rfl⟩ := owns_slice ho
  obtain ⟨_, _, hze, _, _⟩ := lcode_zero hz
  obtain ⟨hne, _⟩ := ends_ne hze
  obtain ⟨b, off, hat⟩ : ∃ b off, (∃ cap, v = .slice (some ⟨b, off, none⟩) l.length cap) ∧ b < w'.heap.size ∧ OpsAt w' b off l := by
    obtain ⟨ao, cap, rfl, _, h⟩ := hV.below h1
    obtain ⟨b, off, rfl, hlt, hat⟩ := h (by rintro rfl; exact hne rfl)
    exact ⟨b, off, ⟨cap, rfl⟩, hlt, hat⟩
  obtain ⟨⟨cap, hv⟩, hlt, hat⟩ := hat
  exact ⟨B, aao, ac, he, b, off, cap, hv, hlt, hat, hrow, intsV_of_owns ho⟩

end Go.Proofs.YtnicbkkkecfdpaaGreatDoor

/-
  The contract of the document's own AheadOf.
-/
namespace Go.Proofs.YtnicbkkkecfdpaaGreatDoor
open Go.ChangeShapes Go.WideShapes Go.ChangeAt Go.RowKit Go.Deep
open Terms

set_option maxRecDepth 20000 in
theorem refl_post {α : Prop} (h : α) : α := h

end Go.Proofs.YtnicbkkkecfdpaaGreatDoor

/-
  The contracts of the document's own secondAt, truthAt and TruthsOf.
-/
namespace Go.Proofs.YtnicbkkkecfdpaaGreatDoor
open Go.ChangeShapes Go.WideShapes Go.ChangeAt Go.RowKit Go.Deep
open Terms

set_option maxRecDepth 20000 in
theorem rsec_any (b off cap p : Nat) (l : List (Int × Int)) (w : World) (h60 : l.length ≤ 60) (hz : endsCode (l.map Prod.fst) = 0) (hp : p < l.length) (h2 : pn (l.getD p (0, 0)).1 = 2) (hat : OpsAt w b off l) :
    Calls Tryz.prog 117 #[.slice (some ⟨b, off, none⟩) l.length cap, .int .i64 (p : Int)] w fun e w' => e = .returned (.int .i64 (sec l p : Int)) ∧ w' = w := by
  obtain ⟨h1, hs⟩ := part_in hz hp
  have hp1 := h1 (by omega)
  obtain ⟨_, hc⟩ := code_zero hz
  rw [List.length_map] at hc
  obtain ⟨m, hm, hm1, hml⟩ := cnt_in (l.map Prod.fst) 1 l.length (p + 1) hc hp1
  have hks : KindsAt w b off (l.map Prod.fst) := fun i hi => by
    rw [List.length_map] at hi
    rw [(hat i hi).1]
    simp [List.getD_eq_getElem?_getD, hi]
  have hen := endOf_any b off l.length cap (p + 1) (l.map Prod.fst) w h60 (by rw [List.length_map]) (by omega) hks
  have hsec : sec l p = p + 1 + m := by unfold sec; exact endAt_ok hm
  rw [hm] at hen
  rw [hsec]
  have hpc : ((p + 1 : Nat) : Int) = (p : Int) + 1 := by omega
  simp only [endOfVal] at hen
  rw [hpc] at hen
  generalize ((p + 1 + m : Nat) : Int) = z at *
  generalize l.length = n at *
  clear hat hks hc hm hs h1 h2 hsec hpc
  go_enter Tryz.func117, Tryz.ntmps117
  go_wp2_with (go_at_call 76; refine hen.mono ?_; rintro e w1 ⟨rfl, rfl⟩)
  go_ret
  exact ⟨rfl, rfl⟩

set_option maxRecDepth 20000 in
theorem kind_ok {l : List (Int × Int)} (hz : endsCode (l.map Prod.fst) = 0) {p : Nat} (hp : p < l.length) : 1 ≤ (l.getD p (0, 0)).1 ∧ (l.getD p (0, 0)).1 ≤ 18 := by
  obtain ⟨_, hc⟩ := code_zero hz
  rw [List.length_map] at hc
  obtain ⟨m, hm, _, _⟩ := cnt_in (l.map Prod.fst) 1 l.length p hc hp
  have ha := cnt_at (ks := l.map Prod.fst) (q := p) (by rw [List.length_map]; exact hp)
  rw [hm] at ha
  have hget : (l.map Prod.fst).getD p 0 = (l.getD p (0, 0)).1 := by simp [List.getD_eq_getElem?_getD, hp]
  rw [hget] at ha
  split at ha
  · rename_i hk; simpa [okK] using hk
  · simp at ha

/-- what truthAt stands on. -/
structure TruIn (w : World) (v lv av : Value) (l : List (Int × Int)) (letter : List Bool) : Prop where
  ops : OpsV w v l
  letter : BoolsV w lv letter
  ahead : IntsV w av (aheadL l)
set_option maxRecDepth 20000 in
theorem TruIn.below {w w' : World} {v lv av : Value} {l : List (Int × Int)} {letter : List Bool} (h : TruIn w v lv av l letter) (hb : Below w.heap.size w w') : TruIn w' v lv av l letter := ⟨h.ops.below hb, h.letter.below hb, h.ahead.below hb⟩

end Go.Proofs.YtnicbkkkecfdpaaGreatDoor

/-
  The document's own said: what holds at a place and a moment.
-/
namespace Go.Proofs.YtnicbkkkecfdpaaGreatDoor
open Go.ChangeShapes Go.WideShapes Go.ChangeAt Go.RowKit Go.Deep
open Terms

set_option maxRecDepth 20000 in
set_option maxHeartbeats 800000 in
/-- letterAt hands out the very slice that the word has. -/
theorem letterAt_ex (so lo : Option Addr) (sn sc ln lc : Nat) (ss ll : List (List Bool)) (i : Nat) (w : World) (hsn : sn = ss.length) (hln : ln = ll.length) (hs : sn ≤ 12) (hl0 : 1 ≤ ln) (hl : ln ≤ 12) (hi : i ≤ 100) (hS : LettersV w (.slice so sn sc) ss) (hL : LettersV w (.slice lo ln lc) ll) :
    ∃ uo uc, BoolsV w (.slice uo ((ss ++ ll).getD (moAt sn (sn + ln) i) []).length uc) ((ss ++ ll).getD (moAt sn (sn + ln) i) []) ∧ ∀ w1, Below w.heap.size w w1 → Calls Tryz.prog 115 #[.agg #[.slice so sn sc, .slice lo ln lc], .int .i64 (i : Int)] w1 fun e w' => e = .returned (.slice uo ((ss ++ ll).getD (moAt sn (sn + ln) i) []).length uc) ∧ Below w1.heap.size w1 w' := by
  have hmlt := moAt_lt (s := sn) (n := sn + ln) (i := i) (by omega)
  have hm2 : ∀ w1 : World, Calls Tryz.prog 116 #[.agg #[.slice so sn sc, .slice lo ln lc], .int .i64 (i : Int)] (w1.alloc (.cells #[.slice so sn sc, .slice lo ln lc] 46)) fun e w' => e = .returned (.int .i64 (moAt sn (sn + ln) i : Int)) ∧ Below (w1.heap.size + 1) (w1.alloc (.cells #[.slice so sn sc, .slice lo ln lc] 46)) w' := fun w1 => (moment_any so lo sn sc ln lc i _ hs hl0 hl hi).mono fun e w' ⟨h1, h2⟩ => ⟨h1, by simpa using h2⟩
  have hA : ∀ (w1 : World) o, Below w1.heap.size w1 (w1.alloc o) := fun w1 o => (Below.refl _ _).alloc (Nat.le_refl _) o
  have d0 : ∀ w1 : World, (w1.alloc (.cells #[.slice so sn sc, .slice lo ln lc] 46)).cell? ⟨w1.heap.size, 0, none⟩ = some (.slice so sn sc) := fun w1 => by simp [go_sem]
  have d1 : ∀ w1 : World, (w1.alloc (.cells #[.slice so sn sc, .slice lo ln lc] 46)).cell? ⟨w1.heap.size, 1, none⟩ = some (.slice lo ln lc) := fun w1 => by simp [go_sem]
  generalize moAt sn (sn + ln) i = mo at *
  by_cases hlow : mo < sn
  · obtain ⟨b, off, rfl, hbl, u, hcu, hbu⟩ := hS.at (i := mo) (by omega)
    have hgd : (ss ++ ll).getD mo [] = ss.getD mo [] := by rw [getD_app, if_pos (by omega)]
    rw [hgd]
    generalize ss.getD mo [] = x at *
    obtain ⟨uo, uc, rfl, hux⟩ := id hbu
    refine ⟨uo, uc, hbu, fun w1 hbw1 => ?_⟩
    have hcu1 := (hbw1.cell (p := ⟨b, off + mo, none⟩) hbl).trans hcu
    have hbl1 := Nat.lt_of_lt_of_le hbl hbw1.size
    have hlow' : (mo : Int) < (sn : Int) := by omega
    have hm3 := hm2 w1
    have d0' := d0 w1
    have d1' := d1 w1
    have hA1 := hA w1
    generalize x.length = xn at *
    clear hgd hS hL hsn hln hm2 d0 d1 hA hbu hux hcu
    go_enter Tryz.func115, Tryz.ntmps115
    go_wp2_with (go_at_call 116; refine hm3.mono ?_; rintro e w2 ⟨rfl, hb1⟩; have hbw := (hA1 _).trans (hb1.mono (Nat.le_succ _)); have e0 := (hb1.cell (p := ⟨w1.heap.size, 0, none⟩) (Nat.lt_succ_self _)).trans d0'; have e1 := (hb1.cell (p := ⟨w1.heap.size, 1, none⟩) (Nat.lt_succ_self _)).trans d1'; have e2 := (hbw.cell (p := ⟨b, off + mo, none⟩) hbl1).trans hcu1)
    go_ret
    exact ⟨rfl, hbw⟩
  · obtain ⟨b, off, rfl, hbl, u, hcu, hbu⟩ := hL.at (i := mo - sn) (by omega)
    have hgd : (ss ++ ll).getD mo [] = ll.getD (mo - sn) [] := by rw [getD_app, if_neg (by omega), ← hsn]
    rw [hgd]
    generalize ll.getD (mo - sn) [] = x at *
    obtain ⟨uo, uc, rfl, hux⟩ := id hbu
    refine ⟨uo, uc, hbu, fun w1 hbw1 => ?_⟩
    obtain ⟨q, hq⟩ : ∃ q : Nat, q = mo - sn := ⟨_, rfl⟩
    have hqi : (mo : Int) - (sn : Int) = (q : Int) := by omega
    have hql : q < ln := by omega
    rw [← hq] at hcu
    have hcu1 := (hbw1.cell (p := ⟨b, off + q, none⟩) hbl).trans hcu
    have hbl1 := Nat.lt_of_lt_of_le hbl hbw1.size
    have hlow' : ¬ (mo : Int) < (sn : Int) := by omega
    have hm3 := hm2 w1
    have d0' := d0 w1
    have d1' := d1 w1
    have hA1 := hA w1
    generalize x.length = xn at *
    clear hgd hS hL hsn hln hm2 d0 d1 hA hbu hux hcu hq
    go_enter Tryz.func115, Tryz.ntmps115
    go_wp2_with (go_at_call 116; refine hm3.mono ?_; rintro e w2 ⟨rfl, hb1⟩; have hbw := (hA1 _).trans (hb1.mono (Nat.le_succ _)); have e0 := (hb1.cell (p := ⟨w1.heap.size, 0, none⟩) (Nat.lt_succ_self _)).trans d0'; have e1 := (hb1.cell (p := ⟨w1.heap.size, 1, none⟩) (Nat.lt_succ_self _)).trans d1'; have e2 := (hbw.cell (p := ⟨b, off + q, none⟩) hbl1).trans hcu1)
    go_ret
    exact ⟨rfl, hbw⟩

/-- what said stands on. -/
structure SaIn (w : World) (b off n RB m p : Nat) (l : List (Int × Int)) (h : Nat → Nat → Bool) : Prop where
  ops : OpsAt w b off l
  hb : b < w.heap.size
  rows : ∀ q, p < q → q < n → ∃ rb ro rc, w.cell? ⟨RB, q, none⟩ = some (.slice (some ⟨rb, ro, none⟩) m rc) ∧ rb < w.heap.size ∧ ∀ j, j < m → w.cell? ⟨rb, ro + j, none⟩ = some (.bool (h q j))
  hR : RB < w.heap.size
set_option maxRecDepth 20000 in
theorem SaIn.below {w w' : World} {b off n RB m p : Nat} {l : List (Int × Int)} {h : Nat → Nat → Bool} (s : SaIn w b off n RB m p l h) (hb : Below w.heap.size w w') : SaIn w' b off n RB m p l h :=
  ⟨s.ops.below hb s.hb, Nat.lt_of_lt_of_le s.hb hb.size, fun q h1 h2 => by
    obtain ⟨rb, ro, rc, e1, e2, e3⟩ := s.rows q h1 h2
    exact ⟨rb, ro, rc, (hb.cell (p := ⟨RB, q, none⟩) s.hR).trans e1, Nat.lt_of_lt_of_le e2 hb.size, fun j hj => (hb.cell (p := ⟨rb, ro + j, none⟩) e2).trans (e3 j hj)⟩, Nat.lt_of_lt_of_le s.hR hb.size⟩

section
variable (b off n cap RB p : Nat) (so lo : Option Addr) (sn sc ln lc : Nat) (kx vx : Int) (i : Nat) (w : World)

set_option maxRecDepth 20000 in
set_option maxHeartbeats 800000 in
theorem said_11 (hpn : p < n) (h12 : sn ≤ 12) (hl12 : ln ≤ 12) (hi : i < 24) (c0 : w.cell? ⟨b, off + p * 2, none⟩ = some (.int .i64 11)) (hbl : b < w.heap.size) : Calls Tryz.prog 81 #[.slice (some ⟨b, off, none⟩) n cap, .agg #[.slice so sn sc, .slice lo ln lc], .slice (some ⟨RB, 0, none⟩) n n, .int .i64 (p : Int), .int .i64 (i : Int)] w fun e w' => e = .returned (.bool true) ∧ Below w.heap.size w w' := by
  have hA : ∀ o, Below w.heap.size w (w.alloc o) := fun o => (Below.refl _ _).alloc (Nat.le_refl _) o
  have cA := fun o => ((hA o).cell (p := ⟨b, off + p * 2, none⟩) hbl).trans c0
  have hpI : (p : Int) < (n : Int) := by omega
  go_enter Tryz.func81, Tryz.ntmps81
  go_wp2_with fail
  go_ret
  exact ⟨rfl, hA _⟩

set_option maxRecDepth 20000 in
set_option maxHeartbeats 800000 in
theorem said_12 (hpn : p < n) (h12 : sn ≤ 12) (hl12 : ln ≤ 12) (hi : i < 24) (c0 : w.cell? ⟨b, off + p * 2, none⟩ = some (.int .i64 12)) (hbl : b < w.heap.size) : Calls Tryz.prog 81 #[.slice (some ⟨b, off, none⟩) n cap, .agg #[.slice so sn sc, .slice lo ln lc], .slice (some ⟨RB, 0, none⟩) n n, .int .i64 (p : Int), .int .i64 (i : Int)] w fun e w' => e = .returned (.bool false) ∧ Below w.heap.size w w' := by
  have hA : ∀ o, Below w.heap.size w (w.alloc o) := fun o => (Below.refl _ _).alloc (Nat.le_refl _) o
  have cA := fun o => ((hA o).cell (p := ⟨b, off + p * 2, none⟩) hbl).trans c0
  have hpI : (p : Int) < (n : Int) := by omega
  go_enter Tryz.func81, Tryz.ntmps81
  go_wp2_with fail
  go_ret
  exact ⟨rfl, hA _⟩

set_option maxRecDepth 20000 in
set_option maxHeartbeats 800000 in
theorem said_10 (h12 : sn ≤ 12) (hl12 : ln ≤ 12) (hi : i < 24) (c0 : w.cell? ⟨b, off + p * 2, none⟩ = some (.int .i64 10)) (hbl : b < w.heap.size) (m rb ro rc : Nat) (x : Bool) (him : i < m) (hp1 : p + 1 < n) (hn : n ≤ 60) (r0 : w.cell? ⟨RB, p + 1, none⟩ = some (.slice (some ⟨rb, ro, none⟩) m rc)) (r1 : w.cell? ⟨rb, ro + i, none⟩ = some (.bool x)) (hR : RB < w.heap.size) (hrb : rb < w.heap.size) : Calls Tryz.prog 81 #[.slice (some ⟨b, off, none⟩) n cap, .agg #[.slice so sn sc, .slice lo ln lc], .slice (some ⟨RB, 0, none⟩) n n, .int .i64 (p : Int), .int .i64 (i : Int)] w fun e w' => e = .returned (.bool (!x)) ∧ Below w.heap.size w w' := by
  have hA : ∀ o, Below w.heap.size w (w.alloc o) := fun o => (Below.refl _ _).alloc (Nat.le_refl _) o
  have cA := fun o => ((hA o).cell (p := ⟨b, off + p * 2, none⟩) hbl).trans c0
  have cB := fun o => ((hA o).cell (p := ⟨RB, p + 1, none⟩) hR).trans r0
  have cC := fun o => ((hA o).cell (p := ⟨rb, ro + i, none⟩) hrb).trans r1
  have hpI : (p : Int) < (n : Int) := by omega
  go_enter Tryz.func81, Tryz.ntmps81
  go_wp2_with fail
  go_ret
  exact ⟨rfl, hA _⟩

set_option maxRecDepth 20000 in
set_option maxHeartbeats 1600000 in
theorem said_13 (hpn : p < n) (h12 : sn ≤ 12) (hl12 : ln ≤ 12) (hi : i < 24) (c0 : w.cell? ⟨b, off + p * 2, none⟩ = some (.int .i64 13)) (hbl : b < w.heap.size) (c1 : w.cell? ⟨b, off + p * 2 + 1, none⟩ = some (.int .i64 vx)) (uo : Addr) (xn uc : Nat) (x : Bool) (hv0 : 0 ≤ vx) (hv : vx < xn) (hul : uo.block < w.heap.size) (hux : ∀ w1, Below w.heap.size w w1 → w1.cell? ⟨uo.block, uo.off + vx.toNat, none⟩ = some (.bool x)) (hus : uo.spot = none)
    (hla : ∀ w1, Below w.heap.size w w1 → Calls Tryz.prog 115 #[.agg #[.slice so sn sc, .slice lo ln lc], .int .i64 (i : Int)] w1 fun e w' => e = .returned (.slice (some uo) xn uc) ∧ Below w1.heap.size w1 w') : Calls Tryz.prog 81 #[.slice (some ⟨b, off, none⟩) n cap, .agg #[.slice so sn sc, .slice lo ln lc], .slice (some ⟨RB, 0, none⟩) n n, .int .i64 (p : Int), .int .i64 (i : Int)] w fun e w' => e = .returned (.bool x) ∧ Below w.heap.size w w' := by
  obtain ⟨ub, uoff, us⟩ := uo
  simp only at hus hul hux
  subst hus
  obtain ⟨vn, rfl⟩ : ∃ vn : Nat, vx = vn := ⟨vx.toNat, by omega⟩
  simp only [Int.toNat_natCast] at hux
  have hvn : vn < xn := by omega
  obtain ⟨V0, hV0⟩ : ∃ V0, V0 = (w.alloc (.cells #[.slice so sn sc, .slice lo ln lc] 46)) := ⟨_, rfl⟩
  have hA : Below w.heap.size w V0 := by rw [hV0]; exact (Below.refl _ _).alloc (Nat.le_refl _) _
  have hz0 : w.heap.size < V0.heap.size := by rw [hV0]; simp
  have d0 : V0.cell? ⟨w.heap.size, 0, none⟩ = some (.slice so sn sc) := by rw [hV0]; simp [go_sem]
  have d1 : V0.cell? ⟨w.heap.size, 1, none⟩ = some (.slice lo ln lc) := by rw [hV0]; simp [go_sem]
  have HS : Hid (∀ Y, Below V0.heap.size V0 Y → Y.cell? ⟨w.heap.size, 0, none⟩ = some (.slice so sn sc) ∧ Y.cell? ⟨w.heap.size, 1, none⟩ = some (.slice lo ln lc) ∧ Y.cell? ⟨b, off + p * 2, none⟩ = some (.int .i64 13) ∧ Y.cell? ⟨b, off + p * 2 + 1, none⟩ = some (.int .i64 (vn : Int)) ∧ Y.cell? ⟨ub, uoff + vn, none⟩ = some (.bool x) ∧ Below V0.heap.size V0 Y) := fun Y hb => by
    have hw := hA.trans (hb.mono hA.size)
    exact ⟨(hb.cell (p := ⟨w.heap.size, 0, none⟩) hz0).trans d0, (hb.cell (p := ⟨w.heap.size, 1, none⟩) hz0).trans d1, (hw.cell (p := ⟨b, off + p * 2, none⟩) hbl).trans c0, (hw.cell (p := ⟨b, off + p * 2 + 1, none⟩) hbl).trans c1, hux Y hw, hb⟩
  have hS := HS.out
  have HLa : Hid (∀ Y, Below V0.heap.size V0 Y → Calls Tryz.prog 115 #[.agg #[.slice so sn sc, .slice lo ln lc], .int .i64 (i : Int)] Y fun e w' => e = .returned (.slice (some ⟨ub, uoff, none⟩) xn uc) ∧ Below V0.heap.size V0 w') := fun Y hb => (hla Y (hA.trans (hb.mono hA.size))).mono fun e w' ⟨h1, h2⟩ => ⟨h1, hb.trans (h2.mono hb.size)⟩
  have hB0 : Below V0.heap.size V0 V0 := Below.refl _ _
  obtain ⟨q0, q1, q2, q3, q4, _⟩ := hS V0 hB0
  have hpI : (p : Int) < (n : Int) := by omega
  have q2' := q2
  rw [hV0] at q2'
  have HV : Hid (V0 = (w.alloc (.cells #[.slice so sn sc, .slice lo ln lc] 46))) := hV0
  clear hux hla d0 d1 c0 c1 hV0
  go_enter Tryz.func81, Tryz.ntmps81
  go_wp2_with fail
  rw [← HV.out]
  go_region_held3 (fun Y => Y.cell? ⟨w.heap.size, 0, none⟩ = some (.slice so sn sc) ∧ Y.cell? ⟨w.heap.size, 1, none⟩ = some (.slice lo ln lc) ∧ Y.cell? ⟨b, off + p * 2, none⟩ = some (.int .i64 13) ∧ Y.cell? ⟨b, off + p * 2 + 1, none⟩ = some (.int .i64 (vn : Int)) ∧ Y.cell? ⟨ub, uoff + vn, none⟩ = some (.bool x) ∧ Below V0.heap.size V0 Y)
    (exact hS _ (by first | exact hB0 | exact hB0.drew | exact hb4))
    (first | (go_at_call 115; refine (HLa.out _ hB0.drew).mono ?_; rintro e w4 ⟨rfl, hb4⟩))
  go_wp2_with fail
  go_ret
  exact ⟨rfl, hA.trans (hb4.mono hA.size)⟩

set_option maxRecDepth 20000 in
set_option maxHeartbeats 1600000 in
theorem said_14 (h12 : sn ≤ 12) (hl12 : ln ≤ 12) (hi : i < 24) (c0 : w.cell? ⟨b, off + p * 2, none⟩ = some (.int .i64 14)) (hbl : b < w.heap.size) (m rb ro rc : Nat) (h : Nat → Bool) (hm : m = sn + ln) (hl1 : 1 ≤ ln) (him : i < m) (hp1 : p + 1 < n) (hn : n ≤ 60) (r0 : w.cell? ⟨RB, p + 1, none⟩ = some (.slice (some ⟨rb, ro, none⟩) m rc)) (r1 : ∀ j, j < m → w.cell? ⟨rb, ro + j, none⟩ = some (.bool (h j))) (hR : RB < w.heap.size) (hrb : rb < w.heap.size) : Calls Tryz.prog 81 #[.slice (some ⟨b, off, none⟩) n cap, .agg #[.slice so sn sc, .slice lo ln lc], .slice (some ⟨RB, 0, none⟩) n n, .int .i64 (p : Int), .int .i64 (i : Int)] w fun e w' => e = .returned (.bool (h (moAt sn m (i + 1)))) ∧ Below w.heap.size w w' := by
  obtain ⟨V0, hV0⟩ : ∃ V0, V0 = (w.alloc (.cells #[.slice so sn sc, .slice lo ln lc] 46)) := ⟨_, rfl⟩
  have hA : Below w.heap.size w V0 := by rw [hV0]; exact (Below.refl _ _).alloc (Nat.le_refl _) _
  have hz0 : w.heap.size < V0.heap.size := by rw [hV0]; simp
  have d0 : V0.cell? ⟨w.heap.size, 0, none⟩ = some (.slice so sn sc) := by rw [hV0]; simp [go_sem]
  have d1 : V0.cell? ⟨w.heap.size, 1, none⟩ = some (.slice lo ln lc) := by rw [hV0]; simp [go_sem]
  have hmo := fun w1 => moment_any so lo sn sc ln lc (i + 1) w1 h12 hl1 hl12 (by omega)
  rw [← hm] at hmo
  have hml : moAt sn m (i + 1) < m := moAt_lt (by omega)
  have r1' := r1 _ hml
  generalize h (moAt sn m (i + 1)) = x at *
  generalize moAt sn m (i + 1) = mo at *
  have HS : Hid (∀ Y, Below V0.heap.size V0 Y → Y.cell? ⟨w.heap.size, 0, none⟩ = some (.slice so sn sc) ∧ Y.cell? ⟨w.heap.size, 1, none⟩ = some (.slice lo ln lc) ∧ Y.cell? ⟨b, off + p * 2, none⟩ = some (.int .i64 14) ∧ Y.cell? ⟨RB, p + 1, none⟩ = some (.slice (some ⟨rb, ro, none⟩) m rc) ∧ Y.cell? ⟨rb, ro + mo, none⟩ = some (.bool x) ∧ Below V0.heap.size V0 Y) := fun Y hb => by
    have hw := hA.trans (hb.mono hA.size)
    exact ⟨(hb.cell (p := ⟨w.heap.size, 0, none⟩) hz0).trans d0, (hb.cell (p := ⟨w.heap.size, 1, none⟩) hz0).trans d1, (hw.cell (p := ⟨b, off + p * 2, none⟩) hbl).trans c0, (hw.cell (p := ⟨RB, p + 1, none⟩) hR).trans r0, (hw.cell (p := ⟨rb, ro + mo, none⟩) hrb).trans r1', hb⟩
  have hS := HS.out
  have hB0 : Below V0.heap.size V0 V0 := Below.refl _ _
  obtain ⟨q0, q1, q2, q3, q4, _⟩ := hS V0 hB0
  have hpI : (p : Int) < (n : Int) := by omega
  have hp1I : (p : Int) + 1 < (n : Int) := by omega
  have hp0I : (0 : Int) ≤ (p : Int) + 1 := by omega
  have hmoI : (mo : Int) < (m : Int) := by omega
  have hwr1 : IntKind.i64.wrap ((p : Int) + 1) = (p : Int) + 1 := by rw [IntKind.wrap_i64]; omega
  have hwr2 : IntKind.i64.wrap ((i : Int) + 1) = (i : Int) + 1 := by rw [IntKind.wrap_i64]; omega
  have hm24 : m ≤ 24 := by omega
  have q2' := q2
  rw [hV0] at q2'
  have HV : Hid (V0 = (w.alloc (.cells #[.slice so sn sc, .slice lo ln lc] 46))) := hV0
  clear d0 d1 c0 r0 r1 r1' hV0 hm
  go_enter Tryz.func81, Tryz.ntmps81
  go_wp2_with fail
  rw [← HV.out]
  go_region_held3 (fun Y => Y.cell? ⟨w.heap.size, 0, none⟩ = some (.slice so sn sc) ∧ Y.cell? ⟨w.heap.size, 1, none⟩ = some (.slice lo ln lc) ∧ Y.cell? ⟨b, off + p * 2, none⟩ = some (.int .i64 14) ∧ Y.cell? ⟨RB, p + 1, none⟩ = some (.slice (some ⟨rb, ro, none⟩) m rc) ∧ Y.cell? ⟨rb, ro + mo, none⟩ = some (.bool x) ∧ Below V0.heap.size V0 Y)
    (exact hS _ (by first | exact hB0 | exact hB0.drew | exact hb4))
    (first | (go_at_call 116; refine (hmo _).mono ?_; rintro e w4 ⟨rfl, hb4'⟩; have hb4 := hB0.drew.trans (hb4'.mono hB0.drew.size)))
  go_wp2_with fail
  go_ret
  exact ⟨rfl, hA.trans (hb4.mono hA.size)⟩

set_option maxRecDepth 20000 in
set_option maxHeartbeats 3200000 in
theorem said_17 (h12 : sn ≤ 12) (hl12 : ln ≤ 12) (hi : i < 24) (c0 : w.cell? ⟨b, off + p * 2, none⟩ = some (.int .i64 17)) (hbl : b < w.heap.size) (m rb ro rc : Nat) (h : Nat → Bool) (hm : m = sn + ln) (hl1 : 1 ≤ ln) (him : i < m) (hp1 : p + 1 < n) (hn : n ≤ 60) (r0 : w.cell? ⟨RB, p + 1, none⟩ = some (.slice (some ⟨rb, ro, none⟩) m rc)) (r1 : ∀ j, j < m → w.cell? ⟨rb, ro + j, none⟩ = some (.bool (h j))) (hmoh : ∀ j, h (moAt sn m j) = h j) (hR : RB < w.heap.size) (hrb : rb < w.heap.size) : Calls Tryz.prog 81 #[.slice (some ⟨b, off, none⟩) n cap, .agg #[.slice so sn sc, .slice lo ln lc], .slice (some ⟨RB, 0, none⟩) n n, .int .i64 (p : Int), .int .i64 (i : Int)] w fun e w' => e = .returned (.bool (stp h (fun _ => true) false (m + 1) i)) ∧ Below w.heap.size w w' := by
  obtain ⟨V0, hV0⟩ : ∃ V0, V0 = (w.alloc (.cells #[.slice so sn sc, .slice lo ln lc] 46)) := ⟨_, rfl⟩
  have hA : Below w.heap.size w V0 := by rw [hV0]; exact (Below.refl _ _).alloc (Nat.le_refl _) _
  have hz0 : w.heap.size < V0.heap.size := by rw [hV0]; simp
  have d0 : V0.cell? ⟨w.heap.size, 0, none⟩ = some (.slice so sn sc) := by rw [hV0]; simp [go_sem]
  have d1 : V0.cell? ⟨w.heap.size, 1, none⟩ = some (.slice lo ln lc) := by rw [hV0]; simp [go_sem]
  have HS : Hid (∀ (Y : World) (j : Nat), Below V0.heap.size V0 Y → j < 100 → Y.cell? ⟨w.heap.size, 0, none⟩ = some (.slice so sn sc) ∧ Y.cell? ⟨w.heap.size, 1, none⟩ = some (.slice lo ln lc) ∧ Y.cell? ⟨b, off + p * 2, none⟩ = some (.int .i64 17) ∧ Y.cell? ⟨RB, p + 1, none⟩ = some (.slice (some ⟨rb, ro, none⟩) m rc) ∧ Y.cell? ⟨rb, ro + moAt sn m j, none⟩ = some (.bool (h j)) ∧ Below V0.heap.size V0 Y) := fun Y j hb hj => by
    have hw := hA.trans (hb.mono hA.size)
    have hml : moAt sn m j < m := moAt_lt (by omega)
    exact ⟨(hb.cell (p := ⟨w.heap.size, 0, none⟩) hz0).trans d0, (hb.cell (p := ⟨w.heap.size, 1, none⟩) hz0).trans d1, (hw.cell (p := ⟨b, off + p * 2, none⟩) hbl).trans c0, (hw.cell (p := ⟨RB, p + 1, none⟩) hR).trans r0, ((hw.cell (p := ⟨rb, ro + moAt sn m j, none⟩) hrb).trans (r1 _ hml)).trans (congrArg (fun z => some (Value.bool z)) (hmoh j)), hb⟩
  have HMo : Hid (∀ (j : Nat) (w1 : World), j < 100 → Calls Tryz.prog 116 #[.agg #[.slice so sn sc, .slice lo ln lc], .int .i64 (j : Int)] w1 fun e w' => e = .returned (.int .i64 (moAt sn m j : Int)) ∧ Below w1.heap.size w1 w') := fun j w1 hj => by
    have hx := moment_any so lo sn sc ln lc j w1 h12 hl1 hl12 (by omega)
    rw [← hm] at hx
    exact hx
  have HMl : Hid (∀ j : Nat, moAt sn m j < m) := fun j => moAt_lt (by omega)
  have HSt : Hid (∀ q j : Nat, stp h (fun _ => true) false (q + 1) j = (h j || ((fun _ => true) j && stp h (fun _ => true) false q (j + 1)))) := fun _ _ => rfl
  have HS0 : Hid (∀ j : Nat, stp h (fun _ => true) false 0 j = false) := fun _ => rfl
  have hB0 : Below V0.heap.size V0 V0 := Below.refl _ _
  obtain ⟨q0, q1, q2, q3, _, _⟩ := HS.out V0 i hB0 (by omega)
  have hpI : (p : Int) < (n : Int) := by omega
  have q2' := q2
  rw [hV0] at q2'
  have HV : Hid (V0 = (w.alloc (.cells #[.slice so sn sc, .slice lo ln lc] 46))) := hV0
  have hp1I : (p : Int) + 1 < (n : Int) := by omega
  have hp0I : (0 : Int) ≤ (p : Int) + 1 := by omega
  have hwr1 : IntKind.i64.wrap ((p : Int) + 1) = (p : Int) + 1 := by rw [IntKind.wrap_i64]; omega
  have hmI : (m : Int) = (sn : Int) + (ln : Int) := by omega
  have HmI : Hid ((m : Int) = (sn : Int) + (ln : Int)) := hmI
  have HM : Hid (m = sn + ln) := hm
  have hm24 : m ≤ 24 := by omega
  clear d0 d1 c0 r0 r1 hV0 hm hmI hmoh
  generalize hres : stp h (fun _ => true) false = st at *
  clear hres
  obtain ⟨x, hx⟩ : ∃ x, x = st (m + 1) i := ⟨_, rfl⟩
  have HX : Hid (x = st (m + 1) i) := hx
  rw [← hx]
  clear hx
  go_enter Tryz.func81, Tryz.ntmps81
  go_wp2_with fail
  rw [← HV.out]
  go_loopw [13] (fun jv wr => ∃ j : Nat, i ≤ j ∧ j ≤ i + m + 1 ∧ jv = .int .i64 (j : Int) ∧ Hid (x = st (i + m + 1 - j) j) ∧ Hid (Below V0.heap.size V0 wr)) (fun jv _ => i + m + 1 - (intOf jv).toNat)
  case atStart => exact ⟨i, Nat.le_refl _, by omega, rfl, by rw [show i + m + 1 - i = m + 1 by omega]; exact HX.out, hB0⟩
  case round =>
    obtain ⟨j, hj1, hj2, rfl, HE, HB⟩ := hrel
    have hbr := HB.out
    by_cases hlt : j ≤ i + m
    · have hSj := fun Y hb => HS.out Y j hb (by omega)
      have hmo := fun w1 => HMo.out j w1 (by omega)
      have hml := HMl.out j
      have hjw : IntKind.i64.wrap (j : Int) = (j : Int) := by rw [IntKind.wrap_i64]; omega
      have HE2 : Hid (x = (h j || ((fun _ => true) j && st (i + m + 1 - (j + 1)) (j + 1)))) := by
        show _ = _
        rw [HE.out, show i + m + 1 - j = (i + m + 1 - (j + 1)) + 1 by omega, HSt.out]
      have hle : (j : Int) ≤ (i : Int) + (sn : Int) + (ln : Int) := by have := HM.out; omega
      obtain ⟨y0, y1, y2, y3, y4, _⟩ := hSj wr hbr
      generalize moAt sn m j = mo at *
      cases hh : h j with
      | false =>
        rw [hh] at hSj y4
        have HE3 : Hid (x = st (i + m + 1 - (j + 1)) (j + 1)) := by show _ = _; rw [HE2.out]; simp [hh]
        clear hh HE HE2
        go_wp2_with fail
        go_region_held3 (fun Y => Y.cell? ⟨w.heap.size, 0, none⟩ = some (.slice so sn sc) ∧ Y.cell? ⟨w.heap.size, 1, none⟩ = some (.slice lo ln lc) ∧ Y.cell? ⟨b, off + p * 2, none⟩ = some (.int .i64 17) ∧ Y.cell? ⟨RB, p + 1, none⟩ = some (.slice (some ⟨rb, ro, none⟩) m rc) ∧ Y.cell? ⟨rb, ro + mo, none⟩ = some (.bool false) ∧ Below V0.heap.size V0 Y)
          (exact hSj _ (by first | exact hbr | exact hbr.drew | exact hb4))
          (first | (go_at_call 116; refine (hmo _).mono ?_; rintro e w4 ⟨rfl, hb4'⟩; have hb4 := hbr.drew.trans (hb4'.mono hbr.drew.size)))
        go_wp2_with fail
        go_roundw
        case rel => exact ⟨j + 1, by omega, by omega, by go_num, HE3, hb4⟩
        case measure => simp [intOf]; omega
      | true =>
        rw [hh] at hSj y4
        have HE3 : Hid (x = true) := by show _ = _; rw [HE2.out]; simp [hh]
        clear hh HE HE2
        go_wp2_with fail
        go_region_held3 (fun Y => Y.cell? ⟨w.heap.size, 0, none⟩ = some (.slice so sn sc) ∧ Y.cell? ⟨w.heap.size, 1, none⟩ = some (.slice lo ln lc) ∧ Y.cell? ⟨b, off + p * 2, none⟩ = some (.int .i64 17) ∧ Y.cell? ⟨RB, p + 1, none⟩ = some (.slice (some ⟨rb, ro, none⟩) m rc) ∧ Y.cell? ⟨rb, ro + mo, none⟩ = some (.bool true) ∧ Below V0.heap.size V0 Y)
          (exact hSj _ (by first | exact hbr | exact hbr.drew | exact hb4))
          (first | (go_at_call 116; refine (hmo _).mono ?_; rintro e w4 ⟨rfl, hb4'⟩; have hb4 := hbr.drew.trans (hb4'.mono hbr.drew.size)))
        go_wp2_with fail
        go_ret
        rw [HE3.out]
        exact ⟨rfl, hA.trans (hb4.mono hA.size)⟩
    · obtain rfl : j = i + m + 1 := by omega
      have HE3 : Hid (x = false) := by show _ = _; rw [HE.out, show i + m + 1 - (i + m + 1) = 0 by omega, HS0.out]
      have hle : ¬ ((i + m + 1 : Nat) : Int) ≤ (i : Int) + (sn : Int) + (ln : Int) := by have := HM.out; omega
      go_wp2_with fail
      go_ret
      rw [HE3.out]
      exact ⟨rfl, hA.trans (hbr.mono hA.size)⟩

set_option maxRecDepth 20000 in
set_option maxHeartbeats 3200000 in
theorem said_18 (h12 : sn ≤ 12) (hl12 : ln ≤ 12) (hi : i < 24) (c0 : w.cell? ⟨b, off + p * 2, none⟩ = some (.int .i64 18)) (hbl : b < w.heap.size) (m rb ro rc : Nat) (h : Nat → Bool) (hm : m = sn + ln) (hl1 : 1 ≤ ln) (him : i < m) (hp1 : p + 1 < n) (hn : n ≤ 60) (r0 : w.cell? ⟨RB, p + 1, none⟩ = some (.slice (some ⟨rb, ro, none⟩) m rc)) (r1 : ∀ j, j < m → w.cell? ⟨rb, ro + j, none⟩ = some (.bool (h j))) (hmoh : ∀ j, h (moAt sn m j) = h j) (hR : RB < w.heap.size) (hrb : rb < w.heap.size) : Calls Tryz.prog 81 #[.slice (some ⟨b, off, none⟩) n cap, .agg #[.slice so sn sc, .slice lo ln lc], .slice (some ⟨RB, 0, none⟩) n n, .int .i64 (p : Int), .int .i64 (i : Int)] w fun e w' => e = .returned (.bool (stp (fun _ => false) h true (m + 1) i)) ∧ Below w.heap.size w w' := by
  obtain ⟨V0, hV0⟩ : ∃ V0, V0 = (w.alloc (.cells #[.slice so sn sc, .slice lo ln lc] 46)) := ⟨_, rfl⟩
  have hA : Below w.heap.size w V0 := by rw [hV0]; exact (Below.refl _ _).alloc (Nat.le_refl _) _
  have hz0 : w.heap.size < V0.heap.size := by rw [hV0]; simp
  have d0 : V0.cell? ⟨w.heap.size, 0, none⟩ = some (.slice so sn sc) := by rw [hV0]; simp [go_sem]
  have d1 : V0.cell? ⟨w.heap.size, 1, none⟩ = some (.slice lo ln lc) := by rw [hV0]; simp [go_sem]
  have HS : Hid (∀ (Y : World) (j : Nat), Below V0.heap.size V0 Y → j < 100 → Y.cell? ⟨w.heap.size, 0, none⟩ = some (.slice so sn sc) ∧ Y.cell? ⟨w.heap.size, 1, none⟩ = some (.slice lo ln lc) ∧ Y.cell? ⟨b, off + p * 2, none⟩ = some (.int .i64 18) ∧ Y.cell? ⟨RB, p + 1, none⟩ = some (.slice (some ⟨rb, ro, none⟩) m rc) ∧ Y.cell? ⟨rb, ro + moAt sn m j, none⟩ = some (.bool (h j)) ∧ Below V0.heap.size V0 Y) := fun Y j hb hj => by
    have hw := hA.trans (hb.mono hA.size)
    have hml : moAt sn m j < m := moAt_lt (by omega)
    exact ⟨(hb.cell (p := ⟨w.heap.size, 0, none⟩) hz0).trans d0, (hb.cell (p := ⟨w.heap.size, 1, none⟩) hz0).trans d1, (hw.cell (p := ⟨b, off + p * 2, none⟩) hbl).trans c0, (hw.cell (p := ⟨RB, p + 1, none⟩) hR).trans r0, ((hw.cell (p := ⟨rb, ro + moAt sn m j, none⟩) hrb).trans (r1 _ hml)).trans (congrArg (fun z => some (Value.bool z)) (hmoh j)), hb⟩
  have HMo : Hid (∀ (j : Nat) (w1 : World), j < 100 → Calls Tryz.prog 116 #[.agg #[.slice so sn sc, .slice lo ln lc], .int .i64 (j : Int)] w1 fun e w' => e = .returned (.int .i64 (moAt sn m j : Int)) ∧ Below w1.heap.size w1 w') := fun j w1 hj => by
    have hx := moment_any so lo sn sc ln lc j w1 h12 hl1 hl12 (by omega)
    rw [← hm] at hx
    exact hx
  have HMl : Hid (∀ j : Nat, moAt sn m j < m) := fun j => moAt_lt (by omega)
  have HSt : Hid (∀ q j : Nat, stp (fun _ => false) h true (q + 1) j = ((fun _ => false) j || (h j && stp (fun _ => false) h true q (j + 1)))) := fun _ _ => rfl
  have HS0 : Hid (∀ j : Nat, stp (fun _ => false) h true 0 j = true) := fun _ => rfl
  have hB0 : Below V0.heap.size V0 V0 := Below.refl _ _
  obtain ⟨q0, q1, q2, q3, _, _⟩ := HS.out V0 i hB0 (by omega)
  have hpI : (p : Int) < (n : Int) := by omega
  have q2' := q2
  rw [hV0] at q2'
  have HV : Hid (V0 = (w.alloc (.cells #[.slice so sn sc, .slice lo ln lc] 46))) := hV0
  have hp1I : (p : Int) + 1 < (n : Int) := by omega
  have hp0I : (0 : Int) ≤ (p : Int) + 1 := by omega
  have hwr1 : IntKind.i64.wrap ((p : Int) + 1) = (p : Int) + 1 := by rw [IntKind.wrap_i64]; omega
  have hmI : (m : Int) = (sn : Int) + (ln : Int) := by omega
  have HmI : Hid ((m : Int) = (sn : Int) + (ln : Int)) := hmI
  have HM : Hid (m = sn + ln) := hm
  have hm24 : m ≤ 24 := by omega
  clear d0 d1 c0 r0 r1 hV0 hm hmI hmoh
  generalize hres : stp (fun _ => false) h true = st at *
  clear hres
  obtain ⟨x, hx⟩ : ∃ x, x = st (m + 1) i := ⟨_, rfl⟩
  have HX : Hid (x = st (m + 1) i) := hx
  rw [← hx]
  clear hx
  go_enter Tryz.func81, Tryz.ntmps81
  go_wp2_with fail
  rw [← HV.out]
  go_loopw [13] (fun jv wr => ∃ j : Nat, i ≤ j ∧ j ≤ i + m + 1 ∧ jv = .int .i64 (j : Int) ∧ Hid (x = st (i + m + 1 - j) j) ∧ Hid (Below V0.heap.size V0 wr)) (fun jv _ => i + m + 1 - (intOf jv).toNat)
  case atStart => exact ⟨i, Nat.le_refl _, by omega, rfl, by rw [show i + m + 1 - i = m + 1 by omega]; exact HX.out, hB0⟩
  case round =>
    obtain ⟨j, hj1, hj2, rfl, HE, HB⟩ := hrel
    have hbr := HB.out
    by_cases hlt : j ≤ i + m
    · have hSj := fun Y hb => HS.out Y j hb (by omega)
      have hmo := fun w1 => HMo.out j w1 (by omega)
      have hml := HMl.out j
      have hjw : IntKind.i64.wrap (j : Int) = (j : Int) := by rw [IntKind.wrap_i64]; omega
      have HE2 : Hid (x = ((fun _ => false) j || (h j && st (i + m + 1 - (j + 1)) (j + 1)))) := by
        show _ = _
        rw [HE.out, show i + m + 1 - j = (i + m + 1 - (j + 1)) + 1 by omega, HSt.out]
      have hle : (j : Int) ≤ (i : Int) + (sn : Int) + (ln : Int) := by have := HM.out; omega
      obtain ⟨y0, y1, y2, y3, y4, _⟩ := hSj wr hbr
      generalize moAt sn m j = mo at *
      cases hh : h j with
      | false =>
        rw [hh] at hSj y4
        have HE3 : Hid (x = false) := by show _ = _; rw [HE2.out]; simp [hh]
        clear hh HE HE2
        go_wp2_with fail
        go_region_held3 (fun Y => Y.cell? ⟨w.heap.size, 0, none⟩ = some (.slice so sn sc) ∧ Y.cell? ⟨w.heap.size, 1, none⟩ = some (.slice lo ln lc) ∧ Y.cell? ⟨b, off + p * 2, none⟩ = some (.int .i64 18) ∧ Y.cell? ⟨RB, p + 1, none⟩ = some (.slice (some ⟨rb, ro, none⟩) m rc) ∧ Y.cell? ⟨rb, ro + mo, none⟩ = some (.bool false) ∧ Below V0.heap.size V0 Y)
          (exact hSj _ (by first | exact hbr | exact hbr.drew | exact hb4))
          (first | (go_at_call 116; refine (hmo _).mono ?_; rintro e w4 ⟨rfl, hb4'⟩; have hb4 := hbr.drew.trans (hb4'.mono hbr.drew.size)))
        go_wp2_with fail
        go_ret
        rw [HE3.out]
        exact ⟨rfl, hA.trans (hb4.mono hA.size)⟩
      | true =>
        rw [hh] at hSj y4
        have HE3 : Hid (x = st (i + m + 1 - (j + 1)) (j + 1)) := by show _ = _; rw [HE2.out]; simp [hh]
        clear hh HE HE2
        go_wp2_with fail
        go_region_held3 (fun Y => Y.cell? ⟨w.heap.size, 0, none⟩ = some (.slice so sn sc) ∧ Y.cell? ⟨w.heap.size, 1, none⟩ = some (.slice lo ln lc) ∧ Y.cell? ⟨b, off + p * 2, none⟩ = some (.int .i64 18) ∧ Y.cell? ⟨RB, p + 1, none⟩ = some (.slice (some ⟨rb, ro, none⟩) m rc) ∧ Y.cell? ⟨rb, ro + mo, none⟩ = some (.bool true) ∧ Below V0.heap.size V0 Y)
          (exact hSj _ (by first | exact hbr | exact hbr.drew | exact hb4))
          (first | (go_at_call 116; refine (hmo _).mono ?_; rintro e w4 ⟨rfl, hb4'⟩; have hb4 := hbr.drew.trans (hb4'.mono hbr.drew.size)))
        go_wp2_with fail
        go_roundw
        case rel => exact ⟨j + 1, by omega, by omega, by go_num, HE3, hb4⟩
        case measure => simp [intOf]; omega
    · obtain rfl : j = i + m + 1 := by omega
      have HE3 : Hid (x = true) := by show _ = _; rw [HE.out, show i + m + 1 - (i + m + 1) = 0 by omega, HS0.out]
      have hle : ¬ ((i + m + 1 : Nat) : Int) ≤ (i : Int) + (sn : Int) + (ln : Int) := by have := HM.out; omega
      go_wp2_with fail
      go_ret
      rw [HE3.out]
      exact ⟨rfl, hA.trans (hbr.mono hA.size)⟩

set_option maxRecDepth 20000 in
set_option maxHeartbeats 3200000 in
theorem said_8 (h12 : sn ≤ 12) (hl12 : ln ≤ 12) (hi : i < 24) (c0 : w.cell? ⟨b, off + p * 2, none⟩ = some (.int .i64 8)) (hbl : b < w.heap.size) (m rb ro rc rb2 ro2 rc2 sp : Nat) (h g : Nat → Bool) (hm : m = sn + ln) (hl1 : 1 ≤ ln) (him : i < m) (hp1 : p + 1 < n) (hsp : sp < n) (hn : n ≤ 60) (r0 : w.cell? ⟨RB, p + 1, none⟩ = some (.slice (some ⟨rb, ro, none⟩) m rc)) (r1 : ∀ j, j < m → w.cell? ⟨rb, ro + j, none⟩ = some (.bool (h j))) (r2 : w.cell? ⟨RB, sp, none⟩ = some (.slice (some ⟨rb2, ro2, none⟩) m rc2)) (r3 : ∀ j, j < m → w.cell? ⟨rb2, ro2 + j, none⟩ = some (.bool (g j))) (hR : RB < w.heap.size) (hrb : rb < w.heap.size) (hrb2 : rb2 < w.heap.size) (hsec : ∀ w1, Below w.heap.size w w1 → Calls Tryz.prog 117 #[.slice (some ⟨b, off, none⟩) n cap, .int .i64 (p : Int)] w1 fun e w2 => e = .returned (.int .i64 (sp : Int)) ∧ w2 = w1) : Calls Tryz.prog 81 #[.slice (some ⟨b, off, none⟩) n cap, .agg #[.slice so sn sc, .slice lo ln lc], .slice (some ⟨RB, 0, none⟩) n n, .int .i64 (p : Int), .int .i64 (i : Int)] w fun e w' => e = .returned (.bool (h i && g i)) ∧ Below w.heap.size w w' := by
  obtain ⟨V0, hV0⟩ : ∃ V0, V0 = (w.alloc (.cells #[.slice so sn sc, .slice lo ln lc] 46)) := ⟨_, rfl⟩
  have hA : Below w.heap.size w V0 := by rw [hV0]; exact (Below.refl _ _).alloc (Nat.le_refl _) _
  have hz0 : w.heap.size < V0.heap.size := by rw [hV0]; simp
  have d0 : V0.cell? ⟨w.heap.size, 0, none⟩ = some (.slice so sn sc) := by rw [hV0]; simp [go_sem]
  have d1 : V0.cell? ⟨w.heap.size, 1, none⟩ = some (.slice lo ln lc) := by rw [hV0]; simp [go_sem]
  have hsc := hsec V0 hA
  have q2 := (hA.cell (p := ⟨b, off + p * 2, none⟩) hbl).trans c0
  have q3 := (hA.cell (p := ⟨RB, p + 1, none⟩) hR).trans r0
  have q4 := (hA.cell (p := ⟨RB, sp, none⟩) hR).trans r2
  have q5 := (hA.cell (p := ⟨rb, ro + i, none⟩) hrb).trans (r1 i him)
  have q6 := (hA.cell (p := ⟨rb2, ro2 + i, none⟩) hrb2).trans (r3 i him)
  have hpI : (p : Int) < (n : Int) := by omega
  have hm24 : m ≤ 24 := by omega
  generalize h i = x at *
  generalize g i = y at *
  clear c0 r0 r1 r2 r3 hsec hm
  rw [hV0] at hsc q2 q3 q4 q5 q6 d0 d1 hA
  clear hV0 hz0
  cases x <;> cases y
  all_goals
    go_enter Tryz.func81, Tryz.ntmps81
    go_wp2_with (go_at_call 117; refine hsc.mono ?_; rintro e w3 ⟨rfl, hw3⟩; obtain rfl := hw3.symm)
    go_ret
    exact ⟨rfl, hA⟩

set_option maxRecDepth 20000 in
set_option maxHeartbeats 3200000 in
theorem said_9 (h12 : sn ≤ 12) (hl12 : ln ≤ 12) (hi : i < 24) (c0 : w.cell? ⟨b, off + p * 2, none⟩ = some (.int .i64 9)) (hbl : b < w.heap.size) (m rb ro rc rb2 ro2 rc2 sp : Nat) (h g : Nat → Bool) (hm : m = sn + ln) (hl1 : 1 ≤ ln) (him : i < m) (hp1 : p + 1 < n) (hsp : sp < n) (hn : n ≤ 60) (r0 : w.cell? ⟨RB, p + 1, none⟩ = some (.slice (some ⟨rb, ro, none⟩) m rc)) (r1 : ∀ j, j < m → w.cell? ⟨rb, ro + j, none⟩ = some (.bool (h j))) (r2 : w.cell? ⟨RB, sp, none⟩ = some (.slice (some ⟨rb2, ro2, none⟩) m rc2)) (r3 : ∀ j, j < m → w.cell? ⟨rb2, ro2 + j, none⟩ = some (.bool (g j))) (hR : RB < w.heap.size) (hrb : rb < w.heap.size) (hrb2 : rb2 < w.heap.size) (hsec : ∀ w1, Below w.heap.size w w1 → Calls Tryz.prog 117 #[.slice (some ⟨b, off, none⟩) n cap, .int .i64 (p : Int)] w1 fun e w2 => e = .returned (.int .i64 (sp : Int)) ∧ w2 = w1) : Calls Tryz.prog 81 #[.slice (some ⟨b, off, none⟩) n cap, .agg #[.slice so sn sc, .slice lo ln lc], .slice (some ⟨RB, 0, none⟩) n n, .int .i64 (p : Int), .int .i64 (i : Int)] w fun e w' => e = .returned (.bool (h i || g i)) ∧ Below w.heap.size w w' := by
  obtain ⟨V0, hV0⟩ : ∃ V0, V0 = (w.alloc (.cells #[.slice so sn sc, .slice lo ln lc] 46)) := ⟨_, rfl⟩
  have hA : Below w.heap.size w V0 := by rw [hV0]; exact (Below.refl _ _).alloc (Nat.le_refl _) _
  have hz0 : w.heap.size < V0.heap.size := by rw [hV0]; simp
  have d0 : V0.cell? ⟨w.heap.size, 0, none⟩ = some (.slice so sn sc) := by rw [hV0]; simp [go_sem]
  have d1 : V0.cell? ⟨w.heap.size, 1, none⟩ = some (.slice lo ln lc) := by rw [hV0]; simp [go_sem]
  have hsc := hsec V0 hA
  have q2 := (hA.cell (p := ⟨b, off + p * 2, none⟩) hbl).trans c0
  have q3 := (hA.cell (p := ⟨RB, p + 1, none⟩) hR).trans r0
  have q4 := (hA.cell (p := ⟨RB, sp, none⟩) hR).trans r2
  have q5 := (hA.cell (p := ⟨rb, ro + i, none⟩) hrb).trans (r1 i him)
  have q6 := (hA.cell (p := ⟨rb2, ro2 + i, none⟩) hrb2).trans (r3 i him)
  have hpI : (p : Int) < (n : Int) := by omega
  have hm24 : m ≤ 24 := by omega
  generalize h i = x at *
  generalize g i = y at *
  clear c0 r0 r1 r2 r3 hsec hm
  rw [hV0] at hsc q2 q3 q4 q5 q6 d0 d1 hA
  clear hV0 hz0
  cases x <;> cases y
  all_goals
    go_enter Tryz.func81, Tryz.ntmps81
    go_wp2_with (go_at_call 117; refine hsc.mono ?_; rintro e w3 ⟨rfl, hw3⟩; obtain rfl := hw3.symm)
    go_ret
    exact ⟨rfl, hA⟩

set_option maxRecDepth 20000 in
set_option maxHeartbeats 6400000 in
theorem said_15 (h12 : sn ≤ 12) (hl12 : ln ≤ 12) (hi : i < 24) (c0 : w.cell? ⟨b, off + p * 2, none⟩ = some (.int .i64 15)) (hbl : b < w.heap.size) (m rb ro rc rb2 ro2 rc2 sp : Nat) (h g : Nat → Bool) (hm : m = sn + ln) (hl1 : 1 ≤ ln) (him : i < m) (hp1 : p + 1 < n) (hsp : sp < n) (hn : n ≤ 60) (r0 : w.cell? ⟨RB, p + 1, none⟩ = some (.slice (some ⟨rb, ro, none⟩) m rc)) (r1 : ∀ j, j < m → w.cell? ⟨rb, ro + j, none⟩ = some (.bool (h j))) (r2 : w.cell? ⟨RB, sp, none⟩ = some (.slice (some ⟨rb2, ro2, none⟩) m rc2)) (r3 : ∀ j, j < m → w.cell? ⟨rb2, ro2 + j, none⟩ = some (.bool (g j))) (hR : RB < w.heap.size) (hrb : rb < w.heap.size) (hrb2 : rb2 < w.heap.size) (hsec : ∀ w1, Below w.heap.size w w1 → Calls Tryz.prog 117 #[.slice (some ⟨b, off, none⟩) n cap, .int .i64 (p : Int)] w1 fun e w2 => e = .returned (.int .i64 (sp : Int)) ∧ w2 = w1) (hmoh : ∀ j, h (moAt sn m j) = h j) (hmog : ∀ j, g (moAt sn m j) = g j) : Calls Tryz.prog 81 #[.slice (some ⟨b, off, none⟩) n cap, .agg #[.slice so sn sc, .slice lo ln lc], .slice (some ⟨RB, 0, none⟩) n n, .int .i64 (p : Int), .int .i64 (i : Int)] w fun e w' => e = .returned (.bool (stp g h false (m + 1) i)) ∧ Below w.heap.size w w' := by
  obtain ⟨V0, hV0⟩ : ∃ V0, V0 = (w.alloc (.cells #[.slice so sn sc, .slice lo ln lc] 46)) := ⟨_, rfl⟩
  have hA : Below w.heap.size w V0 := by rw [hV0]; exact (Below.refl _ _).alloc (Nat.le_refl _) _
  have hz0 : w.heap.size < V0.heap.size := by rw [hV0]; simp
  have d0 : V0.cell? ⟨w.heap.size, 0, none⟩ = some (.slice so sn sc) := by rw [hV0]; simp [go_sem]
  have d1 : V0.cell? ⟨w.heap.size, 1, none⟩ = some (.slice lo ln lc) := by rw [hV0]; simp [go_sem]
  have hsc := hsec V0 hA
  have HS : Hid (∀ (Y : World) (j : Nat), Below V0.heap.size V0 Y → j < 100 → Y.cell? ⟨w.heap.size, 0, none⟩ = some (.slice so sn sc) ∧ Y.cell? ⟨w.heap.size, 1, none⟩ = some (.slice lo ln lc) ∧ Y.cell? ⟨b, off + p * 2, none⟩ = some (.int .i64 15) ∧ Y.cell? ⟨RB, p + 1, none⟩ = some (.slice (some ⟨rb, ro, none⟩) m rc) ∧ Y.cell? ⟨RB, sp, none⟩ = some (.slice (some ⟨rb2, ro2, none⟩) m rc2) ∧ Y.cell? ⟨rb, ro + moAt sn m j, none⟩ = some (.bool (h j)) ∧ Y.cell? ⟨rb2, ro2 + moAt sn m j, none⟩ = some (.bool (g j))) := fun Y j hb hj => by
    have hw := hA.trans (hb.mono hA.size)
    have hml : moAt sn m j < m := moAt_lt (by omega)
    exact ⟨(hb.cell (p := ⟨w.heap.size, 0, none⟩) hz0).trans d0, (hb.cell (p := ⟨w.heap.size, 1, none⟩) hz0).trans d1, (hw.cell (p := ⟨b, off + p * 2, none⟩) hbl).trans c0, (hw.cell (p := ⟨RB, p + 1, none⟩) hR).trans r0, (hw.cell (p := ⟨RB, sp, none⟩) hR).trans r2, ((hw.cell (p := ⟨rb, ro + moAt sn m j, none⟩) hrb).trans (r1 _ hml)).trans (congrArg (fun z => some (Value.bool z)) (hmoh j)), ((hw.cell (p := ⟨rb2, ro2 + moAt sn m j, none⟩) hrb2).trans (r3 _ hml)).trans (congrArg (fun z => some (Value.bool z)) (hmog j))⟩
  have HMo : Hid (∀ (j : Nat) (w1 : World), j < 100 → Calls Tryz.prog 116 #[.agg #[.slice so sn sc, .slice lo ln lc], .int .i64 (j : Int)] w1 fun e w' => e = .returned (.int .i64 (moAt sn m j : Int)) ∧ Below w1.heap.size w1 w') := fun j w1 hj => by
    have hx := moment_any so lo sn sc ln lc j w1 h12 hl1 hl12 (by omega)
    rw [← hm] at hx
    exact hx
  have HMl : Hid (∀ j : Nat, moAt sn m j < m) := fun j => moAt_lt (by omega)
  have HSt : Hid (∀ q j : Nat, stp g h false (q + 1) j = (g j || (h j && stp g h false q (j + 1)))) := fun _ _ => rfl
  have HS0 : Hid (∀ j : Nat, stp g h false 0 j = false) := fun _ => rfl
  have hB0 : Below V0.heap.size V0 V0 := Below.refl _ _
  obtain ⟨q0, q1, q2, q3, q4, _, _⟩ := HS.out V0 i hB0 (by omega)
  have hpI : (p : Int) < (n : Int) := by omega
  have HV : Hid (V0 = (w.alloc (.cells #[.slice so sn sc, .slice lo ln lc] 46))) := hV0
  have HM : Hid (m = sn + ln) := hm
  have hm24 : m ≤ 24 := by omega
  have q2' := q2
  have q3' := q3
  have q4' := q4
  have hsc' := hsc
  rw [hV0] at q2' q3' q4' hsc'
  clear d0 d1 c0 r0 r1 r2 r3 hV0 hm hmoh hmog hsec hsc
  generalize hres : stp g h false = st at *
  clear hres
  obtain ⟨x, hx⟩ : ∃ x, x = st (m + 1) i := ⟨_, rfl⟩
  have HX : Hid (x = st (m + 1) i) := hx
  rw [← hx]
  clear hx
  go_enter Tryz.func81, Tryz.ntmps81
  go_wp2_with (go_at_call 117; refine hsc'.mono ?_; rintro e w3 ⟨rfl, hw3⟩; obtain rfl := hw3.symm)
  rw [← HV.out]
  clear q2' q3' q4' hsc'
  go_loopw [16] (fun jv wr => ∃ j : Nat, i ≤ j ∧ j ≤ i + m + 1 ∧ jv = .int .i64 (j : Int) ∧ Hid (x = st (i + m + 1 - j) j) ∧ Hid (Below V0.heap.size V0 wr)) (fun jv _ => i + m + 1 - (intOf jv).toNat)
  case atStart => exact ⟨i, Nat.le_refl _, by omega, rfl, by rw [show i + m + 1 - i = m + 1 by omega]; exact HX.out, hB0⟩
  case round =>
    obtain ⟨j, hj1, hj2, rfl, HE, HB⟩ := hrel
    have hbr := HB.out
    by_cases hlt : j ≤ i + m
    · have hSj := fun Y hb => HS.out Y j hb (by omega)
      have hmo := fun w1 => HMo.out j w1 (by omega)
      have hml := HMl.out j
      have HE2 : Hid (x = (g j || (h j && st (i + m + 1 - (j + 1)) (j + 1)))) := by
        show _ = _
        rw [HE.out, show i + m + 1 - j = (i + m + 1 - (j + 1)) + 1 by omega, HSt.out]
      have hle : (j : Int) ≤ (i : Int) + (sn : Int) + (ln : Int) := by have := HM.out; omega
      obtain ⟨y0, y1, y2, y3, y5, _, _⟩ := hSj wr hbr
      generalize moAt sn m j = mo at *
      by_cases hc1 : h j = false ∧ g j = false
      · obtain ⟨hh, hg⟩ := hc1
        rw [hh, hg] at hSj
        have HE3 : Hid (x = false) := by show _ = _; rw [HE2.out]; simp [hh, hg]
        clear hh hg HE HE2
        go_wp2_with (go_at_call 116; refine (hmo _).mono ?_; rintro e w4 ⟨rfl, hb4'⟩; have hb4 := hbr.trans (hb4'.mono hbr.size); obtain ⟨_, _, _, _, _, z0, z1⟩ := hSj w4 hb4)
        go_ret
        rw [HE3.out]
        exact ⟨rfl, hA.trans (hb4.mono hA.size)⟩
      by_cases hc2 : h j = false ∧ g j = true
      · obtain ⟨hh, hg⟩ := hc2
        rw [hh, hg] at hSj
        have HE3 : Hid (x = true) := by show _ = _; rw [HE2.out]; simp [hh, hg]
        clear hh hg HE HE2
        go_wp2_with (go_at_call 116; refine (hmo _).mono ?_; rintro e w4 ⟨rfl, hb4'⟩; have hb4 := hbr.trans (hb4'.mono hbr.size); obtain ⟨_, _, _, _, _, z0, z1⟩ := hSj w4 hb4)
        go_ret
        rw [HE3.out]
        exact ⟨rfl, hA.trans (hb4.mono hA.size)⟩
      by_cases hc3 : h j = true ∧ g j = false
      · obtain ⟨hh, hg⟩ := hc3
        rw [hh, hg] at hSj
        have HE3 : Hid (x = st (i + m + 1 - (j + 1)) (j + 1)) := by show _ = _; rw [HE2.out]; simp [hh, hg]
        clear hh hg HE HE2
        go_wp2_with (go_at_call 116; refine (hmo _).mono ?_; rintro e w4 ⟨rfl, hb4'⟩; have hb4 := hbr.trans (hb4'.mono hbr.size); obtain ⟨_, _, _, _, _, z0, z1⟩ := hSj w4 hb4)
        go_roundw
        case rel => exact ⟨j + 1, by omega, by omega, by go_num, HE3, hb4⟩
        case measure => simp [intOf]; omega
      by_cases hc4 : h j = true ∧ g j = true
      · obtain ⟨hh, hg⟩ := hc4
        rw [hh, hg] at hSj
        have HE3 : Hid (x = true) := by show _ = _; rw [HE2.out]; simp [hh, hg]
        clear hh hg HE HE2
        go_wp2_with (go_at_call 116; refine (hmo _).mono ?_; rintro e w4 ⟨rfl, hb4'⟩; have hb4 := hbr.trans (hb4'.mono hbr.size); obtain ⟨_, _, _, _, _, z0, z1⟩ := hSj w4 hb4)
        go_ret
        rw [HE3.out]
        exact ⟨rfl, hA.trans (hb4.mono hA.size)⟩
      exfalso
      revert hc1 hc2 hc3 hc4
      cases h j <;> cases g j <;> simp
    · obtain rfl : j = i + m + 1 := by omega
      have HE3 : Hid (x = false) := by show _ = _; rw [HE.out, show i + m + 1 - (i + m + 1) = 0 by omega, HS0.out]
      have hle : ¬ ((i + m + 1 : Nat) : Int) ≤ (i : Int) + (sn : Int) + (ln : Int) := by have := HM.out; omega
      go_wp2_with fail
      go_ret
      rw [HE3.out]
      exact ⟨rfl, hA.trans (hbr.mono hA.size)⟩

set_option maxRecDepth 20000 in
set_option maxHeartbeats 6400000 in
theorem said_16 (h12 : sn ≤ 12) (hl12 : ln ≤ 12) (hi : i < 24) (c0 : w.cell? ⟨b, off + p * 2, none⟩ = some (.int .i64 16)) (hbl : b < w.heap.size) (m rb ro rc rb2 ro2 rc2 sp : Nat) (h g : Nat → Bool) (hm : m = sn + ln) (hl1 : 1 ≤ ln) (him : i < m) (hp1 : p + 1 < n) (hsp : sp < n) (hn : n ≤ 60) (r0 : w.cell? ⟨RB, p + 1, none⟩ = some (.slice (some ⟨rb, ro, none⟩) m rc)) (r1 : ∀ j, j < m → w.cell? ⟨rb, ro + j, none⟩ = some (.bool (h j))) (r2 : w.cell? ⟨RB, sp, none⟩ = some (.slice (some ⟨rb2, ro2, none⟩) m rc2)) (r3 : ∀ j, j < m → w.cell? ⟨rb2, ro2 + j, none⟩ = some (.bool (g j))) (hR : RB < w.heap.size) (hrb : rb < w.heap.size) (hrb2 : rb2 < w.heap.size) (hsec : ∀ w1, Below w.heap.size w w1 → Calls Tryz.prog 117 #[.slice (some ⟨b, off, none⟩) n cap, .int .i64 (p : Int)] w1 fun e w2 => e = .returned (.int .i64 (sp : Int)) ∧ w2 = w1) (hmoh : ∀ j, h (moAt sn m j) = h j) (hmog : ∀ j, g (moAt sn m j) = g j) : Calls Tryz.prog 81 #[.slice (some ⟨b, off, none⟩) n cap, .agg #[.slice so sn sc, .slice lo ln lc], .slice (some ⟨RB, 0, none⟩) n n, .int .i64 (p : Int), .int .i64 (i : Int)] w fun e w' => e = .returned (.bool (stp (fun j => h j && g j) g true (m + 1) i)) ∧ Below w.heap.size w w' := by
  obtain ⟨V0, hV0⟩ : ∃ V0, V0 = (w.alloc (.cells #[.slice so sn sc, .slice lo ln lc] 46)) := ⟨_, rfl⟩
  have hA : Below w.heap.size w V0 := by rw [hV0]; exact (Below.refl _ _).alloc (Nat.le_refl _) _
  have hz0 : w.heap.size < V0.heap.size := by rw [hV0]; simp
  have d0 : V0.cell? ⟨w.heap.size, 0, none⟩ = some (.slice so sn sc) := by rw [hV0]; simp [go_sem]
  have d1 : V0.cell? ⟨w.heap.size, 1, none⟩ = some (.slice lo ln lc) := by rw [hV0]; simp [go_sem]
  have hsc := hsec V0 hA
  have HS : Hid (∀ (Y : World) (j : Nat), Below V0.heap.size V0 Y → j < 100 → Y.cell? ⟨w.heap.size, 0, none⟩ = some (.slice so sn sc) ∧ Y.cell? ⟨w.heap.size, 1, none⟩ = some (.slice lo ln lc) ∧ Y.cell? ⟨b, off + p * 2, none⟩ = some (.int .i64 16) ∧ Y.cell? ⟨RB, p + 1, none⟩ = some (.slice (some ⟨rb, ro, none⟩) m rc) ∧ Y.cell? ⟨RB, sp, none⟩ = some (.slice (some ⟨rb2, ro2, none⟩) m rc2) ∧ Y.cell? ⟨rb, ro + moAt sn m j, none⟩ = some (.bool (h j)) ∧ Y.cell? ⟨rb2, ro2 + moAt sn m j, none⟩ = some (.bool (g j))) := fun Y j hb hj => by
    have hw := hA.trans (hb.mono hA.size)
    have hml : moAt sn m j < m := moAt_lt (by omega)
    exact ⟨(hb.cell (p := ⟨w.heap.size, 0, none⟩) hz0).trans d0, (hb.cell (p := ⟨w.heap.size, 1, none⟩) hz0).trans d1, (hw.cell (p := ⟨b, off + p * 2, none⟩) hbl).trans c0, (hw.cell (p := ⟨RB, p + 1, none⟩) hR).trans r0, (hw.cell (p := ⟨RB, sp, none⟩) hR).trans r2, ((hw.cell (p := ⟨rb, ro + moAt sn m j, none⟩) hrb).trans (r1 _ hml)).trans (congrArg (fun z => some (Value.bool z)) (hmoh j)), ((hw.cell (p := ⟨rb2, ro2 + moAt sn m j, none⟩) hrb2).trans (r3 _ hml)).trans (congrArg (fun z => some (Value.bool z)) (hmog j))⟩
  have HMo : Hid (∀ (j : Nat) (w1 : World), j < 100 → Calls Tryz.prog 116 #[.agg #[.slice so sn sc, .slice lo ln lc], .int .i64 (j : Int)] w1 fun e w' => e = .returned (.int .i64 (moAt sn m j : Int)) ∧ Below w1.heap.size w1 w') := fun j w1 hj => by
    have hx := moment_any so lo sn sc ln lc j w1 h12 hl1 hl12 (by omega)
    rw [← hm] at hx
    exact hx
  have HMl : Hid (∀ j : Nat, moAt sn m j < m) := fun j => moAt_lt (by omega)
  have HSt : Hid (∀ q j : Nat, stp (fun j => h j && g j) g true (q + 1) j = ((fun j => h j && g j) j || (g j && stp (fun j => h j && g j) g true q (j + 1)))) := fun _ _ => rfl
  have HS0 : Hid (∀ j : Nat, stp (fun j => h j && g j) g true 0 j = true) := fun _ => rfl
  have hB0 : Below V0.heap.size V0 V0 := Below.refl _ _
  obtain ⟨q0, q1, q2, q3, q4, _, _⟩ := HS.out V0 i hB0 (by omega)
  have hpI : (p : Int) < (n : Int) := by omega
  have HV : Hid (V0 = (w.alloc (.cells #[.slice so sn sc, .slice lo ln lc] 46))) := hV0
  have HM : Hid (m = sn + ln) := hm
  have hm24 : m ≤ 24 := by omega
  have q2' := q2
  have q3' := q3
  have q4' := q4
  have hsc' := hsc
  rw [hV0] at q2' q3' q4' hsc'
  clear d0 d1 c0 r0 r1 r2 r3 hV0 hm hmoh hmog hsec hsc
  generalize hres : stp (fun j => h j && g j) g true = st at *
  clear hres
  obtain ⟨x, hx⟩ : ∃ x, x = st (m + 1) i := ⟨_, rfl⟩
  have HX : Hid (x = st (m + 1) i) := hx
  rw [← hx]
  clear hx
  go_enter Tryz.func81, Tryz.ntmps81
  go_wp2_with (go_at_call 117; refine hsc'.mono ?_; rintro e w3 ⟨rfl, hw3⟩; obtain rfl := hw3.symm)
  rw [← HV.out]
  clear q2' q3' q4' hsc'
  go_loopw [16] (fun jv wr => ∃ j : Nat, i ≤ j ∧ j ≤ i + m + 1 ∧ jv = .int .i64 (j : Int) ∧ Hid (x = st (i + m + 1 - j) j) ∧ Hid (Below V0.heap.size V0 wr)) (fun jv _ => i + m + 1 - (intOf jv).toNat)
  case atStart => exact ⟨i, Nat.le_refl _, by omega, rfl, by rw [show i + m + 1 - i = m + 1 by omega]; exact HX.out, hB0⟩
  case round =>
    obtain ⟨j, hj1, hj2, rfl, HE, HB⟩ := hrel
    have hbr := HB.out
    by_cases hlt : j ≤ i + m
    · have hSj := fun Y hb => HS.out Y j hb (by omega)
      have hmo := fun w1 => HMo.out j w1 (by omega)
      have hml := HMl.out j
      have HE2 : Hid (x = ((fun j => h j && g j) j || (g j && st (i + m + 1 - (j + 1)) (j + 1)))) := by
        show _ = _
        rw [HE.out, show i + m + 1 - j = (i + m + 1 - (j + 1)) + 1 by omega, HSt.out]
      have hle : (j : Int) ≤ (i : Int) + (sn : Int) + (ln : Int) := by have := HM.out; omega
      obtain ⟨y0, y1, y2, y3, y5, _, _⟩ := hSj wr hbr
      generalize moAt sn m j = mo at *
      by_cases hc1 : h j = false ∧ g j = false
      · obtain ⟨hh, hg⟩ := hc1
        rw [hh, hg] at hSj
        have HE3 : Hid (x = false) := by show _ = _; rw [HE2.out]; simp [hh, hg]
        clear hh hg HE HE2
        go_wp2_with (go_at_call 116; refine (hmo _).mono ?_; rintro e w4 ⟨rfl, hb4'⟩; have hb4 := hbr.trans (hb4'.mono hbr.size); obtain ⟨_, _, _, _, _, z0, z1⟩ := hSj w4 hb4)
        go_ret
        rw [HE3.out]
        exact ⟨rfl, hA.trans (hb4.mono hA.size)⟩
      by_cases hc2 : h j = false ∧ g j = true
      · obtain ⟨hh, hg⟩ := hc2
        rw [hh, hg] at hSj
        have HE3 : Hid (x = st (i + m + 1 - (j + 1)) (j + 1)) := by show _ = _; rw [HE2.out]; simp [hh, hg]
        clear hh hg HE HE2
        go_wp2_with (go_at_call 116; refine (hmo _).mono ?_; rintro e w4 ⟨rfl, hb4'⟩; have hb4 := hbr.trans (hb4'.mono hbr.size); obtain ⟨_, _, _, _, _, z0, z1⟩ := hSj w4 hb4)
        go_roundw
        case rel => exact ⟨j + 1, by omega, by omega, by go_num, HE3, hb4⟩
        case measure => simp [intOf]; omega
      by_cases hc3 : h j = true ∧ g j = false
      · obtain ⟨hh, hg⟩ := hc3
        rw [hh, hg] at hSj
        have HE3 : Hid (x = false) := by show _ = _; rw [HE2.out]; simp [hh, hg]
        clear hh hg HE HE2
        go_wp2_with (go_at_call 116; refine (hmo _).mono ?_; rintro e w4 ⟨rfl, hb4'⟩; have hb4 := hbr.trans (hb4'.mono hbr.size); obtain ⟨_, _, _, _, _, z0, z1⟩ := hSj w4 hb4)
        go_ret
        rw [HE3.out]
        exact ⟨rfl, hA.trans (hb4.mono hA.size)⟩
      by_cases hc4 : h j = true ∧ g j = true
      · obtain ⟨hh, hg⟩ := hc4
        rw [hh, hg] at hSj
        have HE3 : Hid (x = true) := by show _ = _; rw [HE2.out]; simp [hh, hg]
        clear hh hg HE HE2
        go_wp2_with (go_at_call 116; refine (hmo _).mono ?_; rintro e w4 ⟨rfl, hb4'⟩; have hb4 := hbr.trans (hb4'.mono hbr.size); obtain ⟨_, _, _, _, _, z0, z1⟩ := hSj w4 hb4)
        go_ret
        rw [HE3.out]
        exact ⟨rfl, hA.trans (hb4.mono hA.size)⟩
      exfalso
      revert hc1 hc2 hc3 hc4
      cases h j <;> cases g j <;> simp
    · obtain rfl : j = i + m + 1 := by omega
      have HE3 : Hid (x = true) := by show _ = _; rw [HE.out, show i + m + 1 - (i + m + 1) = 0 by omega, HS0.out]
      have hle : ¬ ((i + m + 1 : Nat) : Int) ≤ (i : Int) + (sn : Int) + (ln : Int) := by have := HM.out; omega
      go_wp2_with fail
      go_ret
      rw [HE3.out]
      exact ⟨rfl, hA.trans (hbr.mono hA.size)⟩

end
end Go.Proofs.YtnicbkkkecfdpaaGreatDoor

/-
  The contract of the document's own said, by the tree.
-/
namespace Go.Proofs.YtnicbkkkecfdpaaGreatDoor
open Go.ChangeShapes Go.WideShapes Go.ChangeAt Go.RowKit Go.Deep
open Terms

set_option maxHeartbeats 3200000 in
set_option maxRecDepth 20000 in
/-- THE CONTRACT OF said. -/
theorem said_any (b off n cap RB p : Nat) (so lo : Option Addr) (sn sc ln lc i m : Nat) (l : List (Int × Int)) (ss ll : List (List Bool)) (t : Tm) (props : Int) (w : World) (hw : t.Wf) (hl : t.ops = l) (hln : l.length = n) (hn : n ≤ 60) (hz : endsCode (l.map Prod.fst) = 0) (hp : p < n) (hpr : ∀ q, q < n → lopErr props (l.getD q (0, 0)) = 0) (hls : ∀ j, j < (ss ++ ll).length → (((ss ++ ll).getD j []).length : Int) = props)
    (hsn : sn = ss.length) (hlnn : ln = ll.length) (h12 : sn ≤ 12) (hl1 : 1 ≤ ln) (hl12 : ln ≤ 12) (hm : m = sn + ln) (him : i < m) (hS : LettersV w (.slice so sn sc) ss) (hL : LettersV w (.slice lo ln lc) ll)
    (hI : SaIn w b off n RB m p l (fun q => (t.sub q).hb (sig (ss ++ ll) sn))) :
    Calls Tryz.prog 81 #[.slice (some ⟨b, off, none⟩) n cap, .agg #[.slice so sn sc, .slice lo ln lc], .slice (some ⟨RB, 0, none⟩) n n, .int .i64 (p : Int), .int .i64 (i : Int)] w fun e w' => e = .returned (.bool ((t.sub p).hb (sig (ss ++ ll) sn) i)) ∧ Below w.heap.size w w' := by
  have hsz : t.size = n := by rw [← t.ops_length, hl, hln]
  have hpt : p < t.size := by omega
  have hop := t.op_at hpt (0, 0)
  rw [hl] at hop
  obtain ⟨c0, c1⟩ := hI.ops p (by omega)
  have he := hpr p hp
  rw [hop] at c0 c1 he
  simp only at c0 c1
  have hsw := Tm.sub_wf hw p
  have hki := fun i (hi : i < (t.sub p).kids.length) => Tm.kid_in hw hpt hi
  have hlen : (ss ++ ll).length = m := by rw [List.length_append]; omega
  have hss : sn < (ss ++ ll).length := by omega
  have hper := sig_per hss
  rw [hlen] at hper
  have hmo : ∀ (x : Tm) j, x.hb (sig (ss ++ ll) sn) (moAt sn m j) = x.hb (sig (ss ++ ll) sn) j := fun x j => by have := hb_mo hss x j; rwa [hlen] at this
  have hi24 : i < 24 := by omega
  have hsec : sec l p = endAt (t.ops.map Prod.fst) (p + 1) := by unfold sec; rw [hl]
  have hscan : ∀ {u v : Nat → Bool} {d : Bool}, (∀ j, sn ≤ j → u (j + (m - sn)) = u j) → (∀ j, sn ≤ j → v (j + (m - sn)) = v j) → stp u v d (m + 1) i = untB u v d i := fun hu hv => scan_is (by omega) hu hv i
  cases hx : t.sub p with
  | leaf k v =>
    rw [hx] at c0 c1 he hsw
    simp only [Tm.kind, Tm.val] at c0 c1 he
    have hk : k = 13 ∨ k = 11 ∨ k = 12 := by
      obtain ⟨h1, h2⟩ := hsw
      simp only [okK, decide_eq_true_eq] at h1
      simp only [lopErr] at he
      simp only [pn] at h2
      split at he
      · omega
      · split at h2
        · omega
        · split at h2 <;> omega
    rcases hk with rfl | rfl | rfl
    · have hv : 0 ≤ v ∧ v < props := by
        by_cases hh : v < 0 ∨ props - 1 < v
        · exfalso; simp [lopErr, hh] at he
        · omega
      obtain ⟨uo, uc, hbv, hla⟩ := letterAt_ex so lo sn sc ln lc ss ll i w hsn hlnn h12 hl1 hl12 (by omega) hS hL
      have hmi : moAt sn (sn + ln) i = i := moAt_low (by omega)
      have hsg : sig (ss ++ ll) sn i v.toNat = ((ss ++ ll).getD i []).getD v.toNat false := by unfold sig; rw [hlen, moAt_low him]
      rw [hmi] at hbv hla
      have hle := hls i (by omega)
      rw [Tm.hb_prop, hsg]
      generalize (ss ++ ll).getD i [] = x at *
      have hvx : v.toNat < x.length := by omega
      obtain ⟨ao, ac, e1, e2⟩ := hbv
      obtain ⟨rfl, rfl⟩ : uo = ao ∧ uc = ac := by injection e1 with e1 _ e3; exact ⟨e1, e3⟩
      obtain ⟨ub, uof, rfl, hub, hua⟩ := e2 (by rintro rfl; simp at hvx)
      exact said_13 b off n cap RB p so lo sn sc ln lc v i w hp h12 hl12 hi24 c0 hI.hb c1 ⟨ub, uof, none⟩ x.length uc (x.getD v.toNat false) hv.1 (by omega) hub (fun w1 hb1 => (hb1.cell (p := ⟨ub, uof + v.toNat, none⟩) hub).trans (hua v.toNat hvx)) rfl hla
    · rw [Tm.hb_yes]
      exact said_11 b off n cap RB p so lo sn sc ln lc i w hp h12 hl12 hi24 c0 hI.hb
    · rw [Tm.hb_no _ _ _ (by decide) (by decide)]
      exact said_12 b off n cap RB p so lo sn sc ln lc i w hp h12 hl12 hi24 c0 hI.hb
  | un k v a =>
    rw [hx] at c0 c1 he hsw hki
    simp only [Tm.kind, Tm.val] at c0 c1 he
    obtain ⟨k1, k2, _⟩ := hki 0 (by simp [Tm.kids])
    rw [Tm.koff_zero] at k1 k2
    have hp1 : p + 1 < n := by omega
    have ha : t.sub (p + 1) = a := k2
    have hk : k = 10 ∨ k = 14 ∨ k = 17 ∨ k = 18 := by
      obtain ⟨h1, h2, _⟩ := hsw
      simp only [pn] at h2
      split at h2
      · omega
      · split at h2 <;> omega
    obtain ⟨rb, ro, rc, r0, hrb, r1⟩ := hI.rows (p + 1) (by omega) hp1
    simp only [ha] at r1
    rcases hk with rfl | rfl | rfl | rfl
    · rw [Tm.hb_not]
      exact said_10 b off n cap RB p so lo sn sc ln lc i w h12 hl12 hi24 c0 hI.hb m rb ro rc _ him hp1 hn r0 (r1 i him) hI.hR hrb
    · rw [Tm.hb_next, ← hmo a (i + 1)]
      exact said_14 b off n cap RB p so lo sn sc ln lc i w h12 hl12 hi24 c0 hI.hb m rb ro rc _ hm hl1 him hp1 hn r0 r1 hI.hR hrb
    · rw [Tm.hb_fin, ← hscan (fun j hj => Tm.hb_per hper a hj) (fun _ _ => rfl)]
      exact said_17 b off n cap RB p so lo sn sc ln lc i w h12 hl12 hi24 c0 hI.hb m rb ro rc _ hm hl1 him hp1 hn r0 r1 (hmo a) hI.hR hrb
    · rw [Tm.hb_glob, ← hscan (fun _ _ => rfl) (fun j hj => Tm.hb_per hper a hj)]
      exact said_18 b off n cap RB p so lo sn sc ln lc i w h12 hl12 hi24 c0 hI.hb m rb ro rc _ hm hl1 him hp1 hn r0 r1 (hmo a) hI.hR hrb
  | bi k v a b' =>
    have hop2 : pn (l.getD p (0, 0)).1 = 2 := by rw [hop, hx]; rw [hx] at hsw; exact hsw.2.1
    rw [hx] at c0 c1 he hsw hki
    simp only [Tm.kind, Tm.val] at c0 c1 he
    obtain ⟨k1, k2, k3, k4, k5, k6⟩ := hki 0 (by simp [Tm.kids])
    obtain ⟨j1, j2, _⟩ := hki 1 (by simp [Tm.kids])
    rw [Tm.koff_zero] at k1 k2 k3
    have hp1 : p + 1 < n := by omega
    have ha : t.sub (p + 1) = a := k2
    have hse : sec l p = p + (Tm.bi k v a b').koff 1 := by rw [hsec]; exact k3
    have hs1 : p < sec l p := by rw [hse, Tm.koff]; omega
    have hs2 : sec l p < n := by rw [hse]; omega
    have hb' : t.sub (sec l p) = b' := by rw [hse]; exact j2
    have hk : k = 8 ∨ k = 9 ∨ k = 15 ∨ k = 16 := by
      obtain ⟨h1, h2, _⟩ := hsw
      simp only [lopErr] at he
      simp only [pn] at h2
      split at he
      · omega
      · split at h2
        · omega
        · split at h2
          · omega
          · omega
    obtain ⟨rb, ro, rc, r0, hrb, r1⟩ := hI.rows (p + 1) (by omega) hp1
    obtain ⟨rb2, ro2, rc2, r2, hrb2, r3⟩ := hI.rows (sec l p) hs1 hs2
    simp only [ha] at r1
    simp only [hb'] at r3
    have hsc : ∀ w1, Below w.heap.size w w1 → Calls Tryz.prog 117 #[.slice (some ⟨b, off, none⟩) n cap, .int .i64 (p : Int)] w1 fun e w2 => e = .returned (.int .i64 (sec l p : Int)) ∧ w2 = w1 := fun w1 hb1 => by
      have := rsec_any b off cap p l w1 (by omega) hz (by omega) hop2 (hI.ops.below hb1 hI.hb)
      rwa [hln] at this
    rcases hk with rfl | rfl | rfl | rfl
    · rw [Tm.hb_and]
      exact said_8 b off n cap RB p so lo sn sc ln lc i w h12 hl12 hi24 c0 hI.hb m rb ro rc rb2 ro2 rc2 (sec l p) _ _ hm hl1 him hp1 hs2 hn r0 r1 r2 r3 hI.hR hrb hrb2 hsc
    · rw [Tm.hb_or]
      exact said_9 b off n cap RB p so lo sn sc ln lc i w h12 hl12 hi24 c0 hI.hb m rb ro rc rb2 ro2 rc2 (sec l p) _ _ hm hl1 him hp1 hs2 hn r0 r1 r2 r3 hI.hR hrb hrb2 hsc
    · rw [Tm.hb_until, ← hscan (fun j hj => Tm.hb_per hper b' hj) (fun j hj => Tm.hb_per hper a hj)]
      exact said_15 b off n cap RB p so lo sn sc ln lc i w h12 hl12 hi24 c0 hI.hb m rb ro rc rb2 ro2 rc2 (sec l p) _ _ hm hl1 him hp1 hs2 hn r0 r1 r2 r3 hI.hR hrb hrb2 hsc (hmo a) (hmo b')
    · rw [Tm.hb_rel, ← hscan (fun j hj => by simp only [Tm.hb_per hper a hj, Tm.hb_per hper b' hj]) (fun j hj => Tm.hb_per hper b' hj)]
      exact said_16 b off n cap RB p so lo sn sc ln lc i w h12 hl12 hi24 c0 hI.hb m rb ro rc rb2 ro2 rc2 (sec l p) _ _ hm hl1 him hp1 hs2 hn r0 r1 r2 r3 hI.hR hrb hrb2 hsc (hmo a) (hmo b')
end Go.Proofs.YtnicbkkkecfdpaaGreatDoor

/-
  The contract of the document's own rowsOf.
-/
namespace Go.Proofs.YtnicbkkkecfdpaaGreatDoor
open Go.ChangeShapes Go.WideShapes Go.ChangeAt Go.RowKit Go.Deep
open Terms

/-- the rows behind a place are filled. -/
structure RoJ (w : World) (sv lv : Value) (n m RB k : Nat) (h : Nat → Nat → Bool) (W : World) : Prop where
  below : Below w.heap.size w W
  d0 : W.cell? ⟨w.heap.size, 0, none⟩ = some sv
  d1 : W.cell? ⟨w.heap.size, 1, none⟩ = some lv
  rows : ∃ f, W.rowIs RB 50 n f ∧ ∀ q, n - k ≤ q → q < n → ∃ rb rc, f q = .slice (some ⟨rb, 0, none⟩) m rc ∧ rb ≠ RB ∧ rb < W.heap.size ∧ ∀ j, j < m → W.cell? ⟨rb, j, none⟩ = some (.bool (h q j))
  hW : w.heap.size < RB
set_option maxRecDepth 20000 in
theorem RoJ.later {w : World} {sv lv : Value} {n m RB k : Nat} {h : Nat → Nat → Bool} {W W' : World} (s : RoJ w sv lv n m RB k h W) (hb : Below W.heap.size W W') : RoJ w sv lv n m RB k h W' := by
  obtain ⟨f, h1, h2⟩ := s.rows
  have hl := h1.lt
  have := s.hW
  refine ⟨s.below.trans (hb.mono s.below.size), (hb.cell (p := ⟨w.heap.size, 0, none⟩) (by show w.heap.size < _; omega)).trans s.d0, (hb.cell (p := ⟨w.heap.size, 1, none⟩) (by show w.heap.size < _; omega)).trans s.d1, ⟨f, row_later h1 hb, fun q a b => ?_⟩, s.hW⟩
  obtain ⟨rb, rc, e1, e2, e3, e4⟩ := h2 q a b
  exact ⟨rb, rc, e1, e2, Nat.lt_of_lt_of_le e3 hb.size, fun j hj => (hb.cell (p := ⟨rb, j, none⟩) e3).trans (e4 j hj)⟩
set_option maxRecDepth 20000 in
theorem RoJ.put {w : World} {sv lv : Value} {n m RB k : Nat} {h : Nat → Nat → Bool} {W : World} (s : RoJ w sv lv n m RB k h W) (rb rc : Nat) (hne : rb ≠ RB) (hlt : rb < W.heap.size) (hc : ∀ j, j < m → W.cell? ⟨rb, j, none⟩ = some (.bool (h (n - 1 - k) j))) : RoJ w sv lv n m RB (k + 1) h (W.setCell ⟨RB, n - 1 - k, none⟩ (.slice (some ⟨rb, 0, none⟩) m rc)) := by
  have ho : ∀ (z j : Nat), z ≠ RB → (W.setCell ⟨RB, n - 1 - k, none⟩ (.slice (some ⟨rb, 0, none⟩) m rc)).cell? ⟨z, j, none⟩ = W.cell? ⟨z, j, none⟩ := fun z j hz => World.cell?_setCell_other _ _ _ _ (by intro e; injection e with e1 _; exact hz e1.symm)
  have hsz : (W.setCell ⟨RB, n - 1 - k, none⟩ (.slice (some ⟨rb, 0, none⟩) m rc)).heap.size = W.heap.size := by simp
  have hw := s.hW
  obtain ⟨f, h1, h2⟩ := s.rows
  refine ⟨s.below.setCell (by show w.heap.size ≤ RB; omega) _, (ho _ _ (by omega)).trans s.d0, (ho _ _ (by omega)).trans s.d1, ⟨_, h1.set (n - 1 - k) _, fun q a b => ?_⟩, s.hW⟩
  by_cases hq : q = n - 1 - k
  · subst hq
    exact ⟨rb, rc, if_pos rfl, hne, by rw [hsz]; exact hlt, fun j hj => (ho _ _ hne).trans (hc j hj)⟩
  · obtain ⟨r, c, e1, e2, e3, e4⟩ := h2 q (by omega) b
    exact ⟨r, c, (if_neg hq).trans e1, e2, by rw [hsz]; exact e3, fun j hj => (ho _ _ e2).trans (e4 j hj)⟩

set_option maxHeartbeats 3200000 in
set_option maxRecDepth 20000 in
/-- THE CONTRACT OF rowsOf. -/
theorem rows_any (b off n cap : Nat) (so lo : Option Addr) (sn sc ln lc m : Nat) (l : List (Int × Int)) (ss ll : List (List Bool)) (t : Tm) (props : Int) (w : World) (hw : t.Wf) (hl : t.ops = l) (hln : l.length = n) (hn : n ≤ 60) (hz : endsCode (l.map Prod.fst) = 0) (hpr : ∀ q, q < n → lopErr props (l.getD q (0, 0)) = 0) (hls : ∀ j, j < (ss ++ ll).length → (((ss ++ ll).getD j []).length : Int) = props)
    (hsn : sn = ss.length) (hlnn : ln = ll.length) (h12 : sn ≤ 12) (hl1 : 1 ≤ ln) (hl12 : ln ≤ 12) (hm : m = sn + ln) (hS : LettersV w (.slice so sn sc) ss) (hL : LettersV w (.slice lo ln lc) ll) (hat : OpsAt w b off l) (hbl : b < w.heap.size) :
    Calls Tryz.prog 56 #[.slice (some ⟨b, off, none⟩) n cap, .agg #[.slice so sn sc, .slice lo ln lc]] w fun e w' => e = .returned (.slice (some ⟨w.heap.size + 1, 0, none⟩) n n) ∧ RoJ w (.slice so sn sc) (.slice lo ln lc) n m (w.heap.size + 1) n (fun q => (t.sub q).hb (sig (ss ++ ll) sn)) w' := by
  have hmk := run_make_row' (P := Tryz.prog) 41 50 (.slice none 0 0) 24 Tryz.underlying41 infoBools rfl .i64 .i64 n (by omega) (by omega)
  obtain ⟨RB, hRB⟩ : ∃ RB, RB = w.heap.size + 1 := ⟨_, rfl⟩
  obtain ⟨h, hh⟩ : ∃ h : Nat → Nat → Bool, h = fun q => (t.sub q).hb (sig (ss ++ ll) sn) := ⟨_, rfl⟩
  rw [← hh]
  have HSa : Hid (∀ (W : World) (k i : Nat), RoJ w (.slice so sn sc) (.slice lo ln lc) n m RB k h W → k < n → i < m → Calls Tryz.prog 81 #[.slice (some ⟨b, off, none⟩) n cap, .agg #[.slice so sn sc, .slice lo ln lc], .slice (some ⟨RB, 0, none⟩) n n, .int .i64 ((n - 1 - k : Nat) : Int), .int .i64 (i : Int)] W fun e w' => e = .returned (.bool (h (n - 1 - k) i)) ∧ Below W.heap.size W w') := fun W k i s hk hi => by
    obtain ⟨f, h1, h2⟩ := s.rows
    rw [hh] at h2 ⊢
    refine said_any b off n cap RB (n - 1 - k) so lo sn sc ln lc i m l ss ll t props W hw hl hln hn hz (by omega) hpr hls hsn hlnn h12 hl1 hl12 hm hi (hS.below s.below) (hL.below s.below) ⟨hat.below s.below hbl, Nat.lt_of_lt_of_le hbl s.below.size, fun q a b => ?_, h1.lt⟩
    obtain ⟨rb, rc, e1, e2, e3, e4⟩ := h2 q (by omega) b
    exact ⟨rb, 0, rc, by rw [h1.cell b, e1], e3, fun j hj => by rw [Nat.zero_add]; exact e4 j hj⟩
  obtain ⟨V0, hV0⟩ : ∃ V0, V0 = (w.alloc (.cells #[.slice so sn sc, .slice lo ln lc] 46)).alloc (.cells (madeCells #[.slice none 0 0] n) 50) := ⟨_, rfl⟩
  have HV : Hid (V0 = (w.alloc (.cells #[.slice so sn sc, .slice lo ln lc] 46)).alloc (.cells (madeCells #[.slice none 0 0] n) 50)) := hV0
  have HR : Hid (RB = w.heap.size + 1) := hRB
  have HJ0 : Hid (RoJ w (.slice so sn sc) (.slice lo ln lc) n m RB 0 h V0) := by
    refine ⟨by rw [hV0]; exact ((Below.refl _ _).alloc (Nat.le_refl _) _).alloc (by simp) _, by rw [hV0]; simp [go_sem], by rw [hV0]; simp [go_sem], ⟨fun _ => .slice none 0 0, ?_, fun q a b => by omega⟩, by omega⟩
    rw [hV0, hRB]
    have r := World.rowIs_made (w.alloc (.cells #[.slice so sn sc, .slice lo ln lc] 46)) (.slice none 0 0) n 50
    simpa using r
  have HM : Hid (m = sn + ln) := hm
  have hmi : (sn : Int) + (ln : Int) = (m : Int) := by omega
  have hm24 : m ≤ 24 := by omega
  have HML : Hid (∀ (x : Nat → Bool) k, bvals ((List.range (k + 1)).map x) = bvals ((List.range k).map x) ++ [.bool (x k)]) := fun x k => by
    rw [List.range_succ, List.map_append]
    unfold bvals
    rw [List.map_append]
    rfl
  obtain ⟨i0, hi, hz0, hz1, hz2⟩ := info_parts infoBool
  clear hS hL hat hls hpr hw hl hln hz hV0 hRB hsn hlnn hm hh
  go_enter Tryz.func56, Tryz.ntmps56
  go_wp2_with fail
  rw [← HV.out, ← HR.out]
  clear hmk
  try rw [hmi]
  go_loopw [7] (fun a wr => ∃ k : Nat, k ≤ n ∧ a = .int .i64 ((n : Int) - 1 - (k : Int)) ∧ Hid (RoJ w (.slice so sn sc) (.slice lo ln lc) n m RB k h wr)) (fun a _ => (intOf a + 1).toNat)
  case atStart => exact ⟨0, Nat.zero_le _, by simp, HJ0.out⟩
  case round =>
    obtain ⟨k, hk, rfl, HJ⟩ := hrel
    by_cases hlt : k < n
    · obtain ⟨p, hp⟩ : ∃ p : Nat, p = n - 1 - k := ⟨_, rfl⟩
      have hpi : (n : Int) - 1 - (k : Int) = (p : Int) := by omega
      have HPI : Hid ((n : Int) - 1 - (k : Int) = (p : Int)) := hpi
      have HP : Hid (p = n - 1 - k) := hp
      have hpn : p < n := by omega
      have HSk : Hid (∀ (W : World) (i : Nat), RoJ w (.slice so sn sc) (.slice lo ln lc) n m RB k h W → i < m → Calls Tryz.prog 81 #[.slice (some ⟨b, off, none⟩) n cap, .agg #[.slice so sn sc, .slice lo ln lc], .slice (some ⟨RB, 0, none⟩) n n, .int .i64 (p : Int), .int .i64 (i : Int)] W fun e w' => e = .returned (.bool (h p i)) ∧ Below W.heap.size W w') := fun W i s hi => by
        have := HSa.out W k i s hlt hi
        rw [← hp] at this
        exact this
      rw [hpi]
      clear hp hpi
      generalize wr = wo at *
      go_wp2_with fail
      go_loopw [8, 9] (fun out i wr => ∃ j : Nat, j ≤ m ∧ i = .int .i64 (j : Int) ∧ Hid (wr.ownsRow wo.heap.size 4 1 out j (bvals ((List.range j).map (h p)))) ∧ Hid (Below wo.heap.size wo wr)) (fun _ i _ => m - (intOf i).toNat)
      case atStart => exact ⟨0, Nat.zero_le _, rfl, World.ownsRow_nil _ _ _ _, Below.refl _ _⟩
      case round =>
        obtain ⟨j, hj, rfl, HOwn, HBel⟩ := hrel
        have hbel := HBel.out
        have hJr := HJ.out.later hbel
        by_cases hlj : j < m
        · have hsd := HSk.out wr j hJr hlj
          have d0 := hJr.d0
          have d1 := hJr.d1
          have hown := HOwn.out
          have hnb := hown.lt
          obtain ⟨oo, oc, rfl⟩ := owns_slice hown
          have h63 : j + 1 ≤ maxLen := by unfold maxLen; omega
          have hkb : (j + 1) * 1 ≤ 140737488355328 := by omega
          have HEl : Hid (bvals ((List.range (j + 1)).map (h p)) = bvals ((List.range j).map (h p)) ++ [.bool (h p j)]) := HML.out (h p) j
          clear hJr
          go_wp2_with (first | (go_at_call 81; refine hsd.mono ?_; rintro e w4 ⟨rfl, hb4⟩; have hb34 := hbel.trans (hb4.mono hbel.size); have hown3 := fun o => (owns_later hown hb4 (Nat.le_refl _)).alloc o; have hbase : ∀ o, wo.heap.size ≤ (w4.alloc o).heap.size := (fun o => by have := hb34.size; simp; omega)) | (at_builtin; refine wpList_append_own _ rfl (.tmp 39) (.tmp 41) 50 rfl wo.heap.size 4 i0 (.bool false) 1 1 Tryz.underlying50 hi hz0 hz1 hz2 rfl (by decide) _ j _ rfl (hown3 _) ⟨w4.heap.size, 0, none⟩ 1 1 [.bool (h p j)] rfl rfl (cell_one_new _ _ _) (by intro u hu; simp at hu; subst hu; rfl) h63 hkb (hbase _) ?_; intro v' w5 hown' hgrow _))
          have hb5 : Below wo.heap.size wo w5 := (hb34.alloc hb34.size _).grown hgrow (hbase _) (fun z hz => (hnb z hz).1)
          have HO5 : Hid (w5.ownsRow wo.heap.size 4 1 v' (j + 1) (bvals ((List.range (j + 1)).map (h p)))) := by
            show World.ownsRow _ _ _ _ _ _ _
            rw [HEl.out]
            exact hown'
          clear hown' hgrow hown3
          exact ⟨⟨j + 1, hlj, by first | rfl | simp, HO5.out, hb5⟩, by simp [intOf]; omega⟩
        · obtain rfl : j = m := by omega
          have hown := HOwn.out
          obtain ⟨f, hr1, hr2⟩ := hJr.rows
          have c0 := hr1.cell hpn
          have f0 := hr1.frozen p
          have hRl : RB < wo.heap.size := by obtain ⟨_, h1, _⟩ := HJ.out.rows; exact h1.lt
          have hm1 := HM.out
          rcases id hown.2 with ⟨_, e0⟩ | ⟨g, gc, cur, rfl, hgb, hgg, _, _, _, _⟩
          · omega
          have hgl : g < wr.heap.size := (Array.getElem?_eq_some_iff.1 hgg).1
          have HN : Hid (RoJ w (.slice so sn sc) (.slice lo ln lc) n j RB (k + 1) h (wr.setCell ⟨RB, p, none⟩ (.slice (some ⟨g, 0, none⟩) j gc))) := by
            show RoJ _ _ _ _ _ _ _ _ _
            rw [HP.out]
            refine hJr.put g gc (by omega) hgl fun i hij => ?_
            have := hown.cellAt i (by omega)
            rw [this, ← HP.out]
            simp [bvals, hij]
          clear hr1 hr2 hown hgg hm1 hJr hbel
          go_wp2_with fail
          have he : (p : Int) - 1 = (n : Int) - 1 - ((k + 1 : Nat) : Int) := by have := HPI.out; omega
          exact ⟨⟨k + 1, by omega, by rw [he], HN⟩, by simp [intOf]⟩
    · have hkn : (n : Int) - 1 - (k : Int) = -1 := by omega
      have hke : k = n := by omega
      have HF : Hid (RoJ w (.slice so sn sc) (.slice lo ln lc) n m RB n h wr) := by
        have hx := HJ.out
        rw [hke] at hx
        exact hx
      rw [hkn]
      clear hkn hke
      go_wp2_with fail
      go_ret
      exact ⟨by rw [← HR.out]; rfl, by rw [← HR.out]; exact HF.out⟩
end Go.Proofs.YtnicbkkkecfdpaaGreatDoor

/-
  The contracts of the document's own formulaAndWord, MomentsOf and HoldsOf.
-/
namespace Go.Proofs.YtnicbkkkecfdpaaGreatDoor
open Go.ChangeShapes Go.WideShapes Go.ChangeAt Go.RowKit Go.Deep
open Terms

set_option maxRecDepth 20000 in
theorem RowT.boolsC {W : World} {rb m : Nat} {h : Nat → Bool} (r : RowT W rb m h) (c : Nat) : BoolsV W (.slice (some ⟨rb, 0, none⟩) m c) ((List.range m).map h) :=
  ⟨some ⟨rb, 0, none⟩, c, by simp, fun _ => ⟨rb, 0, rfl, r.1, fun i hi => by
    simp only [List.length_map, List.length_range] at hi
    rw [Nat.zero_add, r.2 i hi]
    simp [List.getD_eq_getElem?_getD, hi]⟩⟩

set_option maxHeartbeats 800000 in
set_option maxRecDepth 20000 in
/-- THE CONTRACT OF formulaAndWord. -/
theorem fw_any (v sv lv : Value) (l : List (Int × Int)) (ss ll : List (List Bool)) (props : Int) (w : World) (hV : OpsV w v l) (hzs : ss.length ≤ 140737488355328) (hzl : ll.length ≤ 140737488355328) (hS : LettersV w sv ss) (hL : LettersV w lv ll) :
    Calls Tryz.prog 55 #[v, .agg #[sv, lv], .int .i64 props] w fun e w' => e = .returned (.int .i64 (mocode props l ss ll)) ∧ Below w.heap.size w w' := by
  have hA : ∀ o, Below w.heap.size w (w.alloc o) := fun o => (Below.refl _ _).alloc (Nat.le_refl _) o
  have hff : ∀ w1, Below w.heap.size w w1 → Calls Tryz.prog 27 #[v, .int .i64 props] w1 fun e w' => e = .returned (.int .i64 (lcode props l)) ∧ Below w1.heap.size w1 w' := fun w1 hb => fault_any v l props w1 (hV.below hb)
  have hwf : ∀ w1, Below w.heap.size w w1 → Calls Tryz.prog 80 #[.agg #[sv, lv], .int .i64 props] w1 fun e w' => e = .returned (.int .i64 (wdcode props ss ll)) ∧ Below w.heap.size w w' := fun w1 hb => (wfault_any sv lv ss ll props w1 hzs hzl (hS.below hb) (hL.below hb)).mono fun e w' ⟨h1, h2⟩ => ⟨h1, hb.trans (h2.mono hb.size)⟩
  obtain ⟨so, sc, rfl⟩ := hS.shape
  obtain ⟨lo, lc, rfl⟩ := hL.shape
  obtain ⟨vo, vc, rfl, _⟩ := id hV
  unfold mocode
  generalize lcode props l = x at *
  generalize wdcode props ss ll = y at *
  generalize ss.length = sn at *
  generalize ll.length = ln at *
  generalize l.length = n at *
  clear hV hS hL hzs hzl
  by_cases hx : x = 0
  · rw [if_neg (by simpa using hx)]
    subst hx
    go_enter Tryz.func55, Tryz.ntmps55
    go_wp2_with (first | (go_at_call 27; refine (hff _ (hA _)).mono ?_; rintro e w1 ⟨rfl, hb1⟩; have hbw := (hA _).trans (hb1.mono (hA _).size); have k0 : w1.cell? ⟨w.heap.size, 0, none⟩ = some (.slice so sn sc) := (hb1.cell (p := ⟨w.heap.size, 0, none⟩) (by simp)).trans (by simp [go_sem]); have k1 : w1.cell? ⟨w.heap.size, 1, none⟩ = some (.slice lo ln lc) := (hb1.cell (p := ⟨w.heap.size, 1, none⟩) (by simp)).trans (by simp [go_sem])) | (go_at_call 80; refine (hwf _ hbw).mono ?_; rintro e w2 ⟨rfl, hb2⟩))
    go_ret
    exact ⟨rfl, hb2⟩
  · rw [if_pos hx]
    go_enter Tryz.func55, Tryz.ntmps55
    go_wp2_with (go_at_call 27; refine (hff _ (hA _)).mono ?_; rintro e w1 ⟨rfl, hb1⟩; have hbw := (hA _).trans (hb1.mono (hA _).size))
    go_ret
    exact ⟨rfl, hbw⟩

set_option maxHeartbeats 800000 in
set_option maxRecDepth 20000 in
theorem rmoments_bad (v sv lv : Value) (l : List (Int × Int)) (ss ll : List (List Bool)) (props : Int) (w : World) (hV : OpsV w v l) (hzs : ss.length ≤ 140737488355328) (hzl : ll.length ≤ 140737488355328) (hS : LettersV w sv ss) (hL : LettersV w lv ll) (hc : mocode props l ss ll ≠ 0) :
    Calls Tryz.prog 34 #[v, .agg #[sv, lv], .int .i64 props] w fun e w' => e = .returned (.tuple #[.slice none 0 0, .int .i64 (mocode props l ss ll)]) ∧ Below w.heap.size w w' := by
  have hA : ∀ o, Below w.heap.size w (w.alloc o) := fun o => (Below.refl _ _).alloc (Nat.le_refl _) o
  have hff : ∀ w1, Below w.heap.size w w1 → Calls Tryz.prog 55 #[v, .agg #[sv, lv], .int .i64 props] w1 fun e w' => e = .returned (.int .i64 (mocode props l ss ll)) ∧ Below w.heap.size w w' := fun w1 hb => (fw_any v sv lv l ss ll props w1 (hV.below hb) hzs hzl (hS.below hb) (hL.below hb)).mono fun e w' ⟨h1, h2⟩ => ⟨h1, hb.trans (h2.mono hb.size)⟩
  obtain ⟨so, sc, rfl⟩ := hS.shape
  obtain ⟨lo, lc, rfl⟩ := hL.shape
  obtain ⟨vo, vc, rfl, _⟩ := id hV
  generalize mocode props l ss ll = x at *
  generalize ss.length = sn at *
  generalize ll.length = ln at *
  generalize l.length = n at *
  clear hV hS hL hzs hzl
  go_enter Tryz.func34, Tryz.ntmps34
  go_wp2_with (go_at_call 55; refine (hff _ (by first | exact hA _ | exact Below.refl _ _)).mono ?_; rintro e w1 ⟨rfl, hb1⟩)
  go_ret2
  exact ⟨rfl, hb1⟩

set_option maxHeartbeats 800000 in
set_option maxRecDepth 20000 in
theorem rmoments_ok (v sv lv : Value) (l : List (Int × Int)) (ss ll : List (List Bool)) (props : Int) (t : Tm) (w : World) (hV : OpsV w v l) (hS : LettersV w sv ss) (hL : LettersV w lv ll) (hc : mocode props l ss ll = 0) (hwf : t.Wf) (hto : t.ops = l) :
    Calls Tryz.prog 34 #[v, .agg #[sv, lv], .int .i64 props] w fun e w' => ∃ rb rc, e = .returned (.tuple #[.slice (some ⟨rb, 0, none⟩) (ss.length + ll.length) rc, .int .i64 0]) ∧ Below w.heap.size w w' ∧ Hid (RowT w' rb (ss.length + ll.length) (t.hb (sig (ss ++ ll) ss.length))) := by
  obtain ⟨hc1, hc2⟩ := mocode_zero hc
  obtain ⟨_, _, hz, hlf, _⟩ := lcode_zero hc1
  obtain ⟨hne, h60⟩ := ends_ne hz
  obtain ⟨_, h12, h1, hl12, hbad⟩ := wdcode_zero hc2
  rw [List.length_map] at h60
  have hA : ∀ o, Below w.heap.size w (w.alloc o) := fun o => (Below.refl _ _).alloc (Nat.le_refl _) o
  have hff : ∀ w1, Below w.heap.size w w1 → Calls Tryz.prog 55 #[v, .agg #[sv, lv], .int .i64 props] w1 fun e w' => e = .returned (.int .i64 0) ∧ Below w1.heap.size w1 w' := fun w1 hb => (fw_any v sv lv l ss ll props w1 (hV.below hb) (by omega) (by omega) (hS.below hb) (hL.below hb)).mono fun e w' ⟨h1, h2⟩ => ⟨by rw [h1, hc], h2⟩
  obtain ⟨so, sc, rfl⟩ := hS.shape
  obtain ⟨lo, lc, rfl⟩ := hL.shape
  obtain ⟨vo, vc, rfl, _, hvv⟩ := id hV
  obtain ⟨b, off, rfl, hbl, hat⟩ := hvv (by rintro rfl; exact hne rfl)
  have hl0 : 0 < l.length := by
    cases l with
    | nil => exact absurd rfl hne
    | cons _ _ => simp
  have hro : ∀ w1, Below w.heap.size w w1 → Calls Tryz.prog 56 #[.slice (some ⟨b, off, none⟩) l.length vc, .agg #[.slice so ss.length sc, .slice lo ll.length lc]] w1 fun e w' => ∃ RB rb rc, e = .returned (.slice (some ⟨RB, 0, none⟩) l.length l.length) ∧ Below w.heap.size w w' ∧ w'.cell? ⟨RB, 0, none⟩ = some (.slice (some ⟨rb, 0, none⟩) (ss.length + ll.length) rc) ∧ Hid (RowT w' rb (ss.length + ll.length) (t.hb (sig (ss ++ ll) ss.length))) := fun w1 hb => (rows_any b off l.length vc so lo ss.length sc ll.length lc (ss.length + ll.length) l ss ll t props w1 hwf hto rfl h60 hz (fun q hq => lfirst_all hlf q hq) hbad rfl rfl h12 h1 hl12 rfl (hS.below hb) (hL.below hb) (hat.below hb hbl) (Nat.lt_of_lt_of_le hbl hb.size)).mono fun e w' ⟨e1, s⟩ => by
    obtain ⟨f, r1, r2⟩ := s.rows
    obtain ⟨rb, rc, q1, _, q3, q4⟩ := r2 0 (by omega) hl0
    refine ⟨_, rb, rc, e1, hb.trans (s.below.mono hb.size), by rw [r1.cell hl0, q1], q3, fun j hj => ?_⟩
    rw [q4 j hj, Tm.sub_zero]
  have hln0 : (0 : Int) < (l.length : Int) := by omega
  generalize t.hb (sig (ss ++ ll) ss.length) = hh at *
  generalize ss.length = sn at *
  generalize ll.length = ln at *
  generalize l.length = n at *
  clear hV hS hL hc hc1 hc2 hz hne hvv hat hto hlf hbad
  go_enter Tryz.func34, Tryz.ntmps34
  go_wp2_with (first | (go_at_call 55; refine (hff _ (hA _)).mono ?_; rintro e w1 ⟨rfl, hb1⟩; have hbw := (hA _).trans (hb1.mono (hA _).size); have k0 : w1.cell? ⟨w.heap.size, 0, none⟩ = some (.slice so sn sc) := (hb1.cell (p := ⟨w.heap.size, 0, none⟩) (by simp)).trans (by simp [go_sem]); have k1 : w1.cell? ⟨w.heap.size, 1, none⟩ = some (.slice lo ln lc) := (hb1.cell (p := ⟨w.heap.size, 1, none⟩) (by simp)).trans (by simp [go_sem])) | (go_at_call 56; refine (hro _ hbw).mono ?_; rintro e w2 ⟨RB, rb, rc, rfl, hb2, hcr, HR⟩))
  go_ret2
  exact ⟨rb, rc, rfl, hb2, HR⟩

set_option maxHeartbeats 800000 in
set_option maxRecDepth 20000 in
theorem rholds_bad (v sv lv : Value) (l : List (Int × Int)) (ss ll : List (List Bool)) (props : Int) (w : World) (hV : OpsV w v l) (hzs : ss.length ≤ 140737488355328) (hzl : ll.length ≤ 140737488355328) (hS : LettersV w sv ss) (hL : LettersV w lv ll) (hc : mocode props l ss ll ≠ 0) :
    Calls Tryz.prog 18 #[v, .agg #[sv, lv], .int .i64 props] w fun e w' => e = .returned (.tuple #[.bool false, .int .i64 (mocode props l ss ll)]) ∧ Below w.heap.size w w' := by
  have hA : ∀ o, Below w.heap.size w (w.alloc o) := fun o => (Below.refl _ _).alloc (Nat.le_refl _) o
  have hff : ∀ w1, Below w.heap.size w w1 → Calls Tryz.prog 34 #[v, .agg #[sv, lv], .int .i64 props] w1 fun e w' => e = .returned (.tuple #[.slice none 0 0, .int .i64 (mocode props l ss ll)]) ∧ Below w.heap.size w w' := fun w1 hb => (rmoments_bad v sv lv l ss ll props w1 (hV.below hb) hzs hzl (hS.below hb) (hL.below hb) hc).mono fun e w' ⟨h1, h2⟩ => ⟨h1, hb.trans (h2.mono hb.size)⟩
  obtain ⟨so, sc, rfl⟩ := hS.shape
  obtain ⟨lo, lc, rfl⟩ := hL.shape
  obtain ⟨vo, vc, rfl, _⟩ := id hV
  generalize mocode props l ss ll = x at *
  generalize ss.length = sn at *
  generalize ll.length = ln at *
  generalize l.length = n at *
  clear hV hS hL hzs hzl
  go_enter Tryz.func18, Tryz.ntmps18
  go_wp2_with (go_at_call 34; refine (hff _ (by first | exact hA _ | exact Below.refl _ _)).mono ?_; rintro e w1 ⟨rfl, hb1⟩)
  go_ret2
  exact ⟨rfl, hb1⟩

set_option maxHeartbeats 800000 in
set_option maxRecDepth 20000 in
theorem rholds_ok (v sv lv : Value) (l : List (Int × Int)) (ss ll : List (List Bool)) (props : Int) (t : Tm) (w : World) (hV : OpsV w v l) (hS : LettersV w sv ss) (hL : LettersV w lv ll) (hc : mocode props l ss ll = 0) (hwf : t.Wf) (hto : t.ops = l) :
    Calls Tryz.prog 18 #[v, .agg #[sv, lv], .int .i64 props] w fun e w' => e = .returned (.tuple #[.bool (t.hb (sig (ss ++ ll) ss.length) 0), .int .i64 0]) ∧ Below w.heap.size w w' := by
  have hA : ∀ o, Below w.heap.size w (w.alloc o) := fun o => (Below.refl _ _).alloc (Nat.le_refl _) o
  have hfa : ∀ w1, Below w.heap.size w w1 → Calls Tryz.prog 34 #[v, .agg #[sv, lv], .int .i64 props] w1 fun e w' => ∃ rb rc, e = .returned (.tuple #[.slice (some ⟨rb, 0, none⟩) (ss.length + ll.length) rc, .int .i64 0]) ∧ Below w.heap.size w w' ∧ Hid (RowT w' rb (ss.length + ll.length) (t.hb (sig (ss ++ ll) ss.length))) := fun w1 hb => (rmoments_ok v sv lv l ss ll props t w1 (hV.below hb) (hS.below hb) (hL.below hb) hc hwf hto).mono fun e w' ⟨rb, rc, h1, h2, h3⟩ => ⟨rb, rc, h1, hb.trans (h2.mono hb.size), h3⟩
  obtain ⟨_, h12, h1, hl12, _⟩ := wdcode_zero (mocode_zero hc).2
  obtain ⟨so, sc, rfl⟩ := hS.shape
  obtain ⟨lo, lc, rfl⟩ := hL.shape
  obtain ⟨vo, vc, rfl, _⟩ := id hV
  generalize t.hb (sig (ss ++ ll) ss.length) = hh at *
  generalize ss.length = sn at *
  generalize ll.length = ln at *
  generalize l.length = n at *
  obtain ⟨m, hm⟩ : ∃ m, m = sn + ln := ⟨_, rfl⟩
  rw [← hm] at hfa
  have hm0 : 0 < m := by omega
  have hm1 : (0 : Int) < (m : Int) := by omega
  clear hV hS hL hc hto hm
  go_enter Tryz.func18, Tryz.ntmps18
  go_wp2_with (go_at_call 34; refine (hfa _ (by first | exact hA _ | exact Below.refl _ _)).mono ?_; rintro e w1 ⟨rb, rc, rfl, hb1, HR⟩; have hcr := HR.out.2 0 hm0)
  go_ret2
  exact ⟨rfl, hb1⟩
end Go.Proofs.YtnicbkkkecfdpaaGreatDoor

/-
  The document's KeepsOn.
-/
namespace Go.Proofs.YtnicbkkkecfdpaaGreatDoor
open Go.ChangeShapes Go.WideShapes Go.ChangeAt Go.RowKit Go.Deep
open Terms Tm

set_option maxHeartbeats 1600000 in
set_option maxRecDepth 20000 in
theorem keepsOn_task (va vr pv fv sv lv : Value) (m : Mo) (ps : List (List (Int × Int))) (l : List (Int × Int)) (w : World) (hp1 : ps.length * 24 ≤ 140737488355328) (hV : TaskV w va vr pv fv m ps l) (hk : tkcode m ps l ≠ 0) :
    Calls Tryz.prog 7 #[.agg #[va, vr, pv, fv], .agg #[sv, lv]] w fun e w' => e = .returned (.tuple #[.bool false, .int .i64 (tkcode m ps l)]) ∧ Below w.heap.size w w' := by
  obtain ⟨W2, hW2⟩ : ∃ W2, W2 = (w.alloc (.cells #[va, vr, pv, fv] 29)).alloc (.cells #[sv, lv] 32) := ⟨_, rfl⟩
  have hbx : Bx2 w W2 va vr pv fv sv lv := by rw [hW2]; exact Bx2.new _ _ _ _ _ _ _
  obtain ⟨hb2, hz2, HBx'⟩ := hbx
  have HBx : Hid _ := HBx'
  have hch := taskFault_any va vr pv fv m ps l W2 hp1 (hV.below hb2)
  generalize tkcode m ps l = q at *
  clear hV HBx'
  rw [hW2] at hch
  go_enter Tryz.func7, Tryz.ntmps7
  go_wp2_with (go_at_call 15; refine hch.mono ?_; rintro e w1 ⟨rfl, hb1⟩; rw [← hW2] at hb1)
  go_ret2
  exact ⟨rfl, (HBx.out w1 hb1).1⟩

set_option maxHeartbeats 1600000 in
set_option maxRecDepth 20000 in
theorem keepsOn_size (va vr pv fv sv lv : Value) (m : Mo) (ps : List (List (Int × Int))) (l : List (Int × Int)) (ss ll : List Int) (w : World) (hp1 : ps.length * 24 ≤ 140737488355328) (hV : TaskV w va vr pv fv m ps l) (hk : tkcode m ps l = 0) (hS : IntsV w sv ss) (hL : IntsV w lv ll) (h12 : 12 < ss.length ∨ 12 < ll.length) :
    Calls Tryz.prog 7 #[.agg #[va, vr, pv, fv], .agg #[sv, lv]] w fun e w' => e = .returned (.tuple #[.bool false, .int .i64 1]) ∧ Below w.heap.size w w' := by
  obtain ⟨W2, hW2⟩ : ∃ W2, W2 = (w.alloc (.cells #[va, vr, pv, fv] 29)).alloc (.cells #[sv, lv] 32) := ⟨_, rfl⟩
  have hbx : Bx2 w W2 va vr pv fv sv lv := by rw [hW2]; exact Bx2.new _ _ _ _ _ _ _
  obtain ⟨hb2, hz2, HBx'⟩ := hbx
  have HBx : Hid _ := HBx'
  have hch := taskFault_any va vr pv fv m ps l W2 hp1 (hV.below hb2)
  rw [hk] at hch
  obtain ⟨so, sc, rfl, _⟩ := hS
  obtain ⟨lo, lc, rfl, _⟩ := hL
  generalize ss.length = sn at *
  generalize ll.length = ln at *
  clear hV HBx' hk
  rw [hW2] at hch
  by_cases h1 : 12 < sn
  · have h1i : (12 : Int) < (sn : Int) := by omega
    clear h12
    go_enter Tryz.func7, Tryz.ntmps7
    go_wp2_with (go_at_call 15; refine hch.mono ?_; rintro e w1 ⟨rfl, hb1⟩; rw [← hW2] at hb1; obtain ⟨hbw, _, k0, k1⟩ := HBx.out w1 hb1)
    go_ret2
    exact ⟨rfl, hbw⟩
  · have h2 : 12 < ln := by omega
    have h2i : (12 : Int) < (ln : Int) := by omega
    have h1i : ¬ (12 : Int) < (sn : Int) := by omega
    clear h12
    go_enter Tryz.func7, Tryz.ntmps7
    go_wp2_with (go_at_call 15; refine hch.mono ?_; rintro e w1 ⟨rfl, hb1⟩; rw [← hW2] at hb1; obtain ⟨hbw, _, k0, k1⟩ := HBx.out w1 hb1)
    go_ret2
    exact ⟨rfl, hbw⟩

set_option maxHeartbeats 1600000 in
set_option maxRecDepth 20000 in
theorem keepsOn_norun (va vr pv fv : Value) (so lo : Option Addr) (sc lc : Nat) (m : Mo) (ps : List (List (Int × Int))) (l : List (Int × Int)) (ss ll : List Int) (w : World) (hp1 : ps.length * 24 ≤ 140737488355328) (hzv : m.vars.length * 40 ≤ 140737488355328) (hV : TaskV w va vr pv fv m ps l) (hk : tkcode m ps l = 0) (hS : IntsV w (.slice so ss.length sc) ss) (hL : IntsV w (.slice lo ll.length lc) ll) (h1 : ss.length ≤ 12) (h2 : ll.length ≤ 12) (hr : runB m ss ll = false) :
    Calls Tryz.prog 7 #[.agg #[va, vr, pv, fv], .agg #[.slice so ss.length sc, .slice lo ll.length lc]] w fun e w' => e = .returned (.tuple #[.bool false, .int .i64 11]) ∧ Below w.heap.size w w' := by
  obtain ⟨W2, hW2⟩ : ∃ W2, W2 = (w.alloc (.cells #[va, vr, pv, fv] 29)).alloc (.cells #[.slice so ss.length sc, .slice lo ll.length lc] 32) := ⟨_, rfl⟩
  have hbx : Bx2 w W2 va vr pv fv (.slice so ss.length sc) (.slice lo ll.length lc) := by rw [hW2]; exact Bx2.new _ _ _ _ _ _ _
  obtain ⟨hb2, hz2, HBx'⟩ := hbx
  have HBx : Hid _ := HBx'
  have hch := taskFault_any va vr pv fv m ps l W2 hp1 (hV.below hb2)
  rw [hk] at hch
  have hm := (pcode_m (tk_zeroV hk).1).1
  have HRu : Hid (∀ w1, Below w.heap.size w w1 → Calls Tryz.prog 16 #[.agg #[va, vr], .agg #[.slice so ss.length sc, .slice lo ll.length lc]] w1 fun e w' => e = .returned (.tuple #[.bool false, .int .i64 0]) ∧ Below w1.heap.size w1 w') := fun w1 h => by
    have h9 := runsOn_any va vr so lo sc lc m ss ll w1 hzv (hV.mo.below h) (hS.below h) (hL.below h) (by omega)
    rw [hr, hm] at h9
    exact h9
  obtain ⟨ao, ac, rfl⟩ := hV.mo.1.shape
  obtain ⟨ro, rc, rfl⟩ := hV.mo.2.shape
  generalize ss.length = sn at *
  generalize ll.length = ln at *
  generalize m.vars.length = vn at *
  generalize m.rules.length = rn at *
  clear hV HBx' hk hS hL hr hm hzv
  rw [hW2] at hch
  have h2i : ¬ (12 : Int) < (ln : Int) := by omega
  have h1i : ¬ (12 : Int) < (sn : Int) := by omega
  go_enter Tryz.func7, Tryz.ntmps7
  go_wp2_with (first | (go_at_call 15; refine hch.mono ?_; rintro e w1 ⟨rfl, hb1⟩; rw [← hW2] at hb1; obtain ⟨hbw, ⟨k0, k1, k2, k3⟩, k4, k5⟩ := HBx.out w1 hb1; have hru := HRu.out w1 hbw) | (go_at_call 16; refine hru.mono ?_; rintro e w3 ⟨rfl, hb3⟩))
  go_ret2
  exact ⟨rfl, hbw.trans (hb3.mono hbw.size)⟩

set_option maxHeartbeats 3200000 in
set_option maxRecDepth 20000 in
theorem keepsOn_ok (va vr pv fv : Value) (so lo : Option Addr) (sc lc : Nat) (m : Mo) (ps : List (List (Int × Int))) (l : List (Int × Int)) (ss ll : List Int) (t : Tm) (w : World) (hp1 : ps.length * 24 ≤ 140737488355328) (hzv : m.vars.length * 40 ≤ 140737488355328) (hV : TaskV w va vr pv fv m ps l) (hk : tkcode m ps l = 0) (hS : IntsV w (.slice so ss.length sc) ss) (hL : IntsV w (.slice lo ll.length lc) ll) (h1 : ss.length ≤ 12) (h2 : ll.length ≤ 12) (hr : runB m ss ll = true) (hwf : t.Wf) (hto : t.ops = l) :
    Calls Tryz.prog 7 #[.agg #[va, vr, pv, fv], .agg #[.slice so ss.length sc, .slice lo ll.length lc]] w fun e w' => e = .returned (.tuple #[.bool (t.hb (sig (lets m ps ss ++ lets m ps ll) ss.length) 0), .int .i64 0]) ∧ Below w.heap.size w w' := by
  obtain ⟨W2, hW2⟩ : ∃ W2, W2 = (w.alloc (.cells #[va, vr, pv, fv] 29)).alloc (.cells #[.slice so ss.length sc, .slice lo ll.length lc] 32) := ⟨_, rfl⟩
  have hbx : Bx2 w W2 va vr pv fv (.slice so ss.length sc) (.slice lo ll.length lc) := by rw [hW2]; exact Bx2.new _ _ _ _ _ _ _
  obtain ⟨hb2, hz2, HBx'⟩ := hbx
  have HBx : Hid _ := HBx'
  have hch := taskFault_any va vr pv fv m ps l W2 hp1 (hV.below hb2)
  rw [hk] at hch
  have hm := (pcode_m (tk_zeroV hk).1).1
  have HRu : Hid (∀ w1, Below w.heap.size w w1 → Calls Tryz.prog 16 #[.agg #[va, vr], .agg #[.slice so ss.length sc, .slice lo ll.length lc]] w1 fun e w' => e = .returned (.tuple #[.bool true, .int .i64 0]) ∧ Below w1.heap.size w1 w') := fun w1 h => by
    have h9 := runsOn_any va vr so lo sc lc m ss ll w1 hzv (hV.mo.below h) (hS.below h) (hL.below h) (by omega)
    rw [hr, hm] at h9
    exact h9
  have HLe : Hid (∀ (w1 : World) (x : Int), Below w.heap.size w w1 → (0 ≤ x ∧ x < prodTo m.vars m.vars.length) → Calls Tryz.prog 17 #[.agg #[va, vr], pv, .int .i64 x] w1 fun e w' => ∃ uo un uc, e = .returned (.tuple #[.slice uo un uc, .int .i64 0]) ∧ Below w1.heap.size w1 w' ∧ Hid (BoolsV w' (.slice uo un uc) (letL m ps x) ∧ RowTy w' (.slice uo un uc) 4)) := fun w1 x h hx => (rletter_own va vr pv m ps x w1 hp1 (hV.mo.below h) (hV.ps.below h)).mono fun e w' ⟨v, e1, e2, e3, e4⟩ => by
    obtain ⟨uo, uc, rfl, hy⟩ := e3
    exact ⟨uo, _, uc, by rw [e1, (tk_letV hk hx).1], e2, ⟨uo, uc, rfl, hy⟩, e4⟩
  have HHo : Hid (∀ (w1 : World) (x y : Value), Below w.heap.size w w1 → LettersV w1 x (lets m ps ss) → LettersV w1 y (lets m ps ll) → Calls Tryz.prog 18 #[fv, .agg #[x, y], .int .i64 (ps.length : Int)] w1 fun e w' => e = .returned (.tuple #[.bool (t.hb (sig (lets m ps ss ++ lets m ps ll) ss.length) 0), .int .i64 0]) ∧ Below w1.heap.size w1 w') := fun w1 x y h hx hy => by
    have h9 := rholds_ok fv x y l (lets m ps ss) (lets m ps ll) ps.length t w1 (hV.fo.below h) hx hy (run_word hk h1 h2 hr) hwf hto
    rw [lets_len] at h9
    exact h9
  have HSs : Hid (∀ w1, Below w.heap.size w w1 → ∀ k, k < ss.length → ∃ b off, so = some ⟨b, off, none⟩ ∧ b < w.heap.size ∧ w1.cell? ⟨b, off + k, none⟩ = some (.int .i64 (ss.getD k 0)) ∧ (0 ≤ ss.getD k 0 ∧ ss.getD k 0 < prodTo m.vars m.vars.length)) := fun w1 h k hkl => by
    obtain ⟨b, off, e, hlt, hc⟩ := hS.at hkl
    exact ⟨b, off, e, hlt, (h.cell (p := ⟨b, off + k, none⟩) hlt).trans hc, (run_range hr).1 k hkl⟩
  have HLs : Hid (∀ w1, Below w.heap.size w w1 → ∀ k, k < ll.length → ∃ b off, lo = some ⟨b, off, none⟩ ∧ b < w.heap.size ∧ w1.cell? ⟨b, off + k, none⟩ = some (.int .i64 (ll.getD k 0)) ∧ (0 ≤ ll.getD k 0 ∧ ll.getD k 0 < prodTo m.vars m.vars.length)) := fun w1 h k hkl => by
    obtain ⟨b, off, e, hlt, hc⟩ := hL.at hkl
    exact ⟨b, off, e, hlt, (h.cell (p := ⟨b, off + k, none⟩) hlt).trans hc, (run_range hr).2 k hkl⟩
  have HTs : Hid (∀ k, k < ss.length → lets m ps (ss.take (k + 1)) = lets m ps (ss.take k) ++ [letL m ps (ss.getD k 0)]) := fun k h => lets_take h
  have HTl : Hid (∀ k, k < ll.length → lets m ps (ll.take (k + 1)) = lets m ps (ll.take k) ++ [letL m ps (ll.getD k 0)]) := fun k h => lets_take h
  have HNs : Hid (∀ k, k ≤ ss.length → (lets m ps (ss.take k)).length = k) := fun k h => by rw [lets_len, List.length_take]; omega
  have HNl : Hid (∀ k, k ≤ ll.length → (lets m ps (ll.take k)).length = k) := fun k h => by rw [lets_len, List.length_take]; omega
  have HEs : Hid (lets m ps (ss.take ss.length) = lets m ps ss) := by show _ = _; rw [List.take_length]
  have HEl : Hid (lets m ps (ll.take ll.length) = lets m ps ll) := by show _ = _; rw [List.take_length]
  have H0s : Hid (lets m ps (ss.take 0) = []) := rfl
  have H0l : Hid (lets m ps (ll.take 0) = []) := rfl
  obtain ⟨ao, ac, rfl⟩ := hV.mo.1.shape
  obtain ⟨ro, rc, rfl⟩ := hV.mo.2.shape
  obtain ⟨po, pc, rfl⟩ := hV.ps.shape
  obtain ⟨fo, fc, rfl, _⟩ := id hV.fo
  generalize t.hb (sig (lets m ps ss ++ lets m ps ll) ss.length) 0 = res at *
  generalize lets m ps ss = Ls at *
  generalize lets m ps ll = Ll at *
  obtain ⟨Fs, hFs⟩ : ∃ Fs : Nat → List (List Bool), Fs = fun k => lets m ps (ss.take k) := ⟨_, rfl⟩
  obtain ⟨Fl, hFl⟩ : ∃ Fl : Nat → List (List Bool), Fl = fun k => lets m ps (ll.take k) := ⟨_, rfl⟩
  have HTs : Hid (∀ k, k < ss.length → Fs (k + 1) = Fs k ++ [letL m ps (ss.getD k 0)]) := by rw [hFs]; exact HTs.out
  have HTl : Hid (∀ k, k < ll.length → Fl (k + 1) = Fl k ++ [letL m ps (ll.getD k 0)]) := by rw [hFl]; exact HTl.out
  have HNs : Hid (∀ k, k ≤ ss.length → (Fs k).length = k) := by rw [hFs]; exact HNs.out
  have HNl : Hid (∀ k, k ≤ ll.length → (Fl k).length = k) := by rw [hFl]; exact HNl.out
  have HEs : Hid (Fs ss.length = Ls) := by rw [hFs]; exact HEs.out
  have HEl : Hid (Fl ll.length = Ll) := by rw [hFl]; exact HEl.out
  have H0s : Hid (Fs 0 = []) := by rw [hFs]; exact H0s.out
  have H0l : Hid (Fl 0 = []) := by rw [hFl]; exact H0l.out
  clear hFs hFl
  generalize ss.length = sn at *
  generalize ll.length = ln at *
  generalize m.vars.length = vn at *
  generalize m.rules.length = rn at *
  generalize ps.length = pn at *
  generalize l.length = fn at *
  obtain ⟨i0, hi, hz0, hz1, hz3⟩ := info_parts infoBools
  clear hV HBx' hk hS hL hr hm hzv hto hp1
  rw [hW2] at hch
  have h2i : ¬ (12 : Int) < (ln : Int) := by omega
  have h1i : ¬ (12 : Int) < (sn : Int) := by omega
  go_enter Tryz.func7, Tryz.ntmps7
  go_wp2_with (first | (go_at_call 15; refine hch.mono ?_; rintro e w1 ⟨rfl, hb1⟩; rw [← hW2] at hb1; obtain ⟨hbw, ⟨k0, k1, k2, k3⟩, k4, k5⟩ := HBx.out w1 hb1; have hru := HRu.out w1 hbw) | (go_at_call 16; refine hru.mono ?_; rintro e w3 ⟨rfl, hb3⟩; have hb13 := hb1.trans (hb3.mono hb1.size)))
  have HB3 : Hid (Below W2.heap.size W2 w3) := hb13
  have hs3 : w.heap.size + 2 ≤ w3.heap.size := by have := hb13.size; omega
  have HJ0 : Hid (KwJ w3 (w3.alloc (.cells #[.slice none 0 0, .slice none 0 0] 46)) w3.heap.size none none 0 0 (Fs 0) (Fl 0)) := by
    rw [H0s.out, H0l.out]
    refine ⟨(Below.refl _ _).alloc (Nat.le_refl _) _, ⟨by simp, by simp [go_sem], by simp [go_sem], by simp [go_sem], by simp [go_sem]⟩, LettersT.nil _ _, LettersT.nil _ _, fun g n c e => by cases e⟩
  have HBj : Hid (∀ wr, Below w3.heap.size w3 wr → Below W2.heap.size W2 wr) := fun wr h => HB3.out.trans (h.mono HB3.out.size)
  clear hch hru hb1 hb3 hb13 hbw k0 k1 k2 k3 k4 k5 hW2
  go_loopw [10] (fun i wr => ∃ k : Nat, k ≤ sn ∧ i = .int .i64 k ∧ ∃ jo jc, Hid (KwJ w3 wr w3.heap.size jo none jc 0 (Fs k) (Fl 0))) (fun i _ => sn - (intOf i).toNat)
  case atStart => exact ⟨0, Nat.zero_le _, rfl, none, 0, HJ0⟩
  case round =>
    obtain ⟨k, hk, rfl, jo, jc, HJ⟩ := hrel
    have hJ := HJ.out
    have hbW := HBj.out wr hJ.bel
    obtain ⟨hbw, ⟨k0, k1, k2, k3⟩, k4, k5⟩ := HBx.out wr hbW
    by_cases hlt : k < sn
    · obtain ⟨b, off, rfl, hbl, c0, hx⟩ := HSs.out wr hbw k hlt
      have hlw : w.heap.size + 1 < wr.heap.size := by have := hbW.size; omega
      have HNk : Hid ((Fs k).length = k) := HNs.out k hk
      have HTk : Hid (Fs (k + 1) = Fs k ++ [letL m ps (ss.getD k 0)]) := HTs.out k hlt
      have HLx : Hid _ := fun wz (hb : Below w.heap.size w wz) => HLe.out wz (ss.getD k 0) hb hx
      clear hx
      generalize ss.getD k 0 = x at *
      generalize letL m ps x = tx at *
      have HUp : Hid (∀ (w2 : World) (uo : Option Addr) (un uc : Nat), Below wr.heap.size wr w2 → (BoolsV w2 (.slice uo un uc) tx ∧ RowTy w2 (.slice uo un uc) 4) → w2.cell? ⟨w3.heap.size, 0, none⟩ = some (.slice jo k jc) ∧ w3.heap.size + 1 ≤ w2.heap.size ∧ ∃ us, w2.ownsRow (w3.heap.size + 1) 50 1 (.slice jo k jc) k us ∧ ∀ (o : Obj) (g cap : Nat) (w4 : World), w4.ownsRow (w3.heap.size + 1) 50 1 (.slice (some ⟨g, 0, none⟩) (k + 1) cap) (k + 1) (us ++ [.slice uo un uc]) → (w2.alloc o).grownBy w4 (Value.slice jo k jc).ownBlock → ((Value.slice jo k jc).ownBlock = some g ∨ g = w2.heap.size + 1) → w4.frozen? ⟨w3.heap.size, 0, none⟩ = false ∧ (∃ x, w4.cell? ⟨w3.heap.size, 0, none⟩ = some x) ∧ Hid (KwJ w3 (w4.setCell ⟨w3.heap.size, 0, none⟩ (.slice (some ⟨g, 0, none⟩) (k + 1) cap)) w3.heap.size (some ⟨g, 0, none⟩) none cap 0 (Fs (k + 1)) (Fl 0))) := fun w2 uo un uc h hu => by
        have hJ2 := hJ.later h
        have e := HNk.out
        obtain ⟨us, u1, u2⟩ := hJ2.stem
        refine ⟨?_, hJ2.box.1, us, ?_, fun o g cap w4 q1 q2 q3 => ?_⟩
        · have := hJ2.box.2.1
          rw [e] at this
          exact this
        · rw [e] at u1
          exact u1
        · rw [HTk.out]
          have h9 := hJ2.stemUp (g := g) (sc' := cap) (o := o) u1 u2 hu.1 hu.2 (by rw [e]; exact q1) (by rw [e]; exact q2) (by rw [e]; exact q3)
          rw [e] at h9
          exact h9
      have hki : (k : Int) < (sn : Int) := by omega
      have hB0 : Below wr.heap.size wr wr := Below.refl _ _
      have HSC : Hid (∀ w', Below wr.heap.size wr w' → (w'.cell? ⟨w.heap.size, 0, none⟩ = some (.slice ao vn ac) ∧ w'.cell? ⟨w.heap.size, 1, none⟩ = some (.slice ro rn rc) ∧ w'.cell? ⟨w.heap.size, 2, none⟩ = some (.slice po pn pc) ∧ w'.cell? ⟨w.heap.size + 1, 0, none⟩ = some (.slice (some ⟨b, off, none⟩) sn sc) ∧ w'.cell? ⟨b, off + k, none⟩ = some (.int .i64 x))) := fun w' h => by
        have hl : w.heap.size < wr.heap.size := by omega
        exact ⟨(h.cell (p := ⟨w.heap.size, 0, none⟩) hl).trans k0, (h.cell (p := ⟨w.heap.size, 1, none⟩) hl).trans k1, (h.cell (p := ⟨w.heap.size, 2, none⟩) hl).trans k2, (h.cell (p := ⟨w.heap.size + 1, 0, none⟩) hlw).trans k4, (h.cell (p := ⟨b, off + k, none⟩) (Nat.lt_of_lt_of_le hbl hbw.size)).trans c0⟩
      have hle := HLx.out wr.drew hbw.drew
      have h63 : k + 1 ≤ maxLen := by unfold maxLen; omega
      have hkb : (k + 1) * 24 ≤ 140737488355328 := by omega
      clear HJ hJ HLx
      go_wp2_with fail
      go_region_held3 (fun w' => (w'.cell? ⟨w.heap.size, 0, none⟩ = some (.slice ao vn ac) ∧ w'.cell? ⟨w.heap.size, 1, none⟩ = some (.slice ro rn rc) ∧ w'.cell? ⟨w.heap.size, 2, none⟩ = some (.slice po pn pc) ∧ w'.cell? ⟨w.heap.size + 1, 0, none⟩ = some (.slice (some ⟨b, off, none⟩) sn sc) ∧ w'.cell? ⟨b, off + k, none⟩ = some (.int .i64 x)))
        (first | exact HSC.out _ hb12 | exact HSC.out _ hB0.drew | exact HSC.out _ hB0)
        (first
          | (go_at_call 17; refine hle.mono ?_; rintro e w5 ⟨uo, un, uc, rfl, hb5, HU⟩; have hb12 := hB0.drew.trans (hb5.mono hB0.drew.size)))
      obtain ⟨d0, hsz5, us, hown, HNew⟩ := HUp.out w5 uo un uc hb12 HU.out
      have HNew : Hid _ := HNew
      have hown4 := fun o => hown.alloc o
      have hbase : ∀ o, w3.heap.size + 1 ≤ (w5.alloc o).heap.size := fun o => by simp; omega
      have hHH : ∀ o, (w5.alloc o).heap.size = w5.heap.size + 1 := fun o => by simp
      clear hown HUp hle HSC
      go_wp2_with (at_builtin; refine wpList_append_lies _ rfl (.tmp 63) (.tmp 65) 41 rfl (w3.heap.size + 1) 50 i0 (.slice none 0 0) 1 24 Tryz.underlying41 hi hz0 hz1 hz3 rfl (by decide) (.slice jo k jc) k us rfl (hown4 _) ⟨w5.heap.size, 0, none⟩ 1 1 [.slice uo un uc] rfl rfl (cell_one_new _ _ _) (by intro u hu; simp at hu; subst hu; rfl) (by decide) h63 hkb (hbase _) (w5.heap.size + 1) (hHH _) ?_; intro g cap w4 hown' hgrow hgl hglt; obtain ⟨f0, ⟨fx, f1⟩, HJ4⟩ := HNew.out _ g cap w4 hown' hgrow hgl)
      go_roundw
      case rel => exact ⟨k + 1, by omega, by go_num, _, _, HJ4⟩
      case measure => simp [intOf]; omega
    · obtain rfl : sn = k := by omega
      rw [HEs.out] at HJ
      obtain ⟨qs, qc, hqs⟩ : ∃ qs qc, qs = jo ∧ qc = jc := ⟨_, _, rfl, rfl⟩
      obtain ⟨rfl, rfl⟩ := hqs
      clear hJ hbW hbw k0 k1 k2 k3 hlt hk
      go_wp2_with fail
      generalize wr = wo at *
      go_loopw [13] (fun i wr => ∃ k : Nat, k ≤ ln ∧ i = .int .i64 k ∧ ∃ jo jc, Hid (KwJ w3 wr w3.heap.size qs jo qc jc Ls (Fl k))) (fun i _ => ln - (intOf i).toNat)
      case atStart => exact ⟨0, Nat.zero_le _, rfl, none, 0, HJ⟩
      case round =>
        obtain ⟨k, hk, rfl, jo, jc, HJ⟩ := hrel
        have hJ := HJ.out
        have hbW := HBj.out wr hJ.bel
        obtain ⟨hbw, ⟨k0, k1, k2, k3⟩, k4, k5⟩ := HBx.out wr hbW
        by_cases hlt : k < ln
        · obtain ⟨b, off, rfl, hbl, c0, hx⟩ := HLs.out wr hbw k hlt
          have hlw : w.heap.size + 1 < wr.heap.size := by have := hbW.size; omega
          have HNk : Hid ((Fl k).length = k) := HNl.out k hk
          have HTk : Hid (Fl (k + 1) = Fl k ++ [letL m ps (ll.getD k 0)]) := HTl.out k hlt
          have HLx : Hid _ := fun wz (hb : Below w.heap.size w wz) => HLe.out wz (ll.getD k 0) hb hx
          clear hx
          generalize ll.getD k 0 = x at *
          generalize letL m ps x = tx at *
          have HUp : Hid (∀ (w2 : World) (uo : Option Addr) (un uc : Nat), Below wr.heap.size wr w2 → (BoolsV w2 (.slice uo un uc) tx ∧ RowTy w2 (.slice uo un uc) 4) → w2.cell? ⟨w3.heap.size, 1, none⟩ = some (.slice jo k jc) ∧ w3.heap.size + 1 ≤ w2.heap.size ∧ ∃ us, w2.ownsRow (w3.heap.size + 1) 50 1 (.slice jo k jc) k us ∧ ∀ (o : Obj) (g cap : Nat) (w4 : World), w4.ownsRow (w3.heap.size + 1) 50 1 (.slice (some ⟨g, 0, none⟩) (k + 1) cap) (k + 1) (us ++ [.slice uo un uc]) → (w2.alloc o).grownBy w4 (Value.slice jo k jc).ownBlock → ((Value.slice jo k jc).ownBlock = some g ∨ g = w2.heap.size + 1) → w4.frozen? ⟨w3.heap.size, 1, none⟩ = false ∧ (∃ x, w4.cell? ⟨w3.heap.size, 1, none⟩ = some x) ∧ Hid (KwJ w3 (w4.setCell ⟨w3.heap.size, 1, none⟩ (.slice (some ⟨g, 0, none⟩) (k + 1) cap)) w3.heap.size qs (some ⟨g, 0, none⟩) qc cap Ls (Fl (k + 1)))) := fun w2 uo un uc h hu => by
            have hJ2 := hJ.later h
            have e := HNk.out
            obtain ⟨us, u1, u2⟩ := hJ2.loop
            refine ⟨?_, hJ2.box.1, us, ?_, fun o g cap w4 q1 q2 q3 => ?_⟩
            · have := hJ2.box.2.2.1
              rw [e] at this
              exact this
            · rw [e] at u1
              exact u1
            · rw [HTk.out]
              have h9 := hJ2.loopUp (g := g) (lc' := cap) (o := o) u1 u2 hu.1 hu.2 (by rw [e]; exact q1) (by rw [e]; exact q2) (by rw [e]; exact q3)
              rw [e] at h9
              exact h9
          have hki : (k : Int) < (ln : Int) := by omega
          have hB0 : Below wr.heap.size wr wr := Below.refl _ _
          have HSC : Hid (∀ w', Below wr.heap.size wr w' → (w'.cell? ⟨w.heap.size, 0, none⟩ = some (.slice ao vn ac) ∧ w'.cell? ⟨w.heap.size, 1, none⟩ = some (.slice ro rn rc) ∧ w'.cell? ⟨w.heap.size, 2, none⟩ = some (.slice po pn pc) ∧ w'.cell? ⟨w.heap.size + 1, 1, none⟩ = some (.slice (some ⟨b, off, none⟩) ln lc) ∧ w'.cell? ⟨b, off + k, none⟩ = some (.int .i64 x))) := fun w' h => by
            have hl : w.heap.size < wr.heap.size := by omega
            exact ⟨(h.cell (p := ⟨w.heap.size, 0, none⟩) hl).trans k0, (h.cell (p := ⟨w.heap.size, 1, none⟩) hl).trans k1, (h.cell (p := ⟨w.heap.size, 2, none⟩) hl).trans k2, (h.cell (p := ⟨w.heap.size + 1, 1, none⟩) hlw).trans k5, (h.cell (p := ⟨b, off + k, none⟩) (Nat.lt_of_lt_of_le hbl hbw.size)).trans c0⟩
          have hle := HLx.out wr.drew hbw.drew
          have h63 : k + 1 ≤ maxLen := by unfold maxLen; omega
          have hkb : (k + 1) * 24 ≤ 140737488355328 := by omega
          clear HJ hJ HLx
          go_wp2_with fail
          go_region_held3 (fun w' => (w'.cell? ⟨w.heap.size, 0, none⟩ = some (.slice ao vn ac) ∧ w'.cell? ⟨w.heap.size, 1, none⟩ = some (.slice ro rn rc) ∧ w'.cell? ⟨w.heap.size, 2, none⟩ = some (.slice po pn pc) ∧ w'.cell? ⟨w.heap.size + 1, 1, none⟩ = some (.slice (some ⟨b, off, none⟩) ln lc) ∧ w'.cell? ⟨b, off + k, none⟩ = some (.int .i64 x)))
            (first | exact HSC.out _ hb12 | exact HSC.out _ hB0.drew | exact HSC.out _ hB0)
            (first
              | (go_at_call 17; refine hle.mono ?_; rintro e w5 ⟨uo, un, uc, rfl, hb5, HU⟩; have hb12 := hB0.drew.trans (hb5.mono hB0.drew.size)))
          obtain ⟨d0, hsz5, us, hown, HNew⟩ := HUp.out w5 uo un uc hb12 HU.out
          have HNew : Hid _ := HNew
          have hown4 := fun o => hown.alloc o
          have hbase : ∀ o, w3.heap.size + 1 ≤ (w5.alloc o).heap.size := fun o => by simp; omega
          have hHH : ∀ o, (w5.alloc o).heap.size = w5.heap.size + 1 := fun o => by simp
          clear hown HUp hle HSC
          go_wp2_with (at_builtin; refine wpList_append_lies _ rfl (.tmp 89) (.tmp 91) 41 rfl (w3.heap.size + 1) 50 i0 (.slice none 0 0) 1 24 Tryz.underlying41 hi hz0 hz1 hz3 rfl (by decide) (.slice jo k jc) k us rfl (hown4 _) ⟨w5.heap.size, 0, none⟩ 1 1 [.slice uo un uc] rfl rfl (cell_one_new _ _ _) (by intro u hu; simp at hu; subst hu; rfl) (by decide) h63 hkb (hbase _) (w5.heap.size + 1) (hHH _) ?_; intro g cap w4 hown' hgrow hgl hglt; obtain ⟨f0, ⟨fx, f1⟩, HJ4⟩ := HNew.out _ g cap w4 hown' hgrow hgl)
          go_roundw
          case rel => exact ⟨k + 1, by omega, by go_num, _, _, HJ4⟩
          case measure => simp [intOf]; omega
        · obtain rfl : ln = k := by omega
          rw [HEl.out] at HJ
          have hJ := HJ.out
          have e0 := hJ.box.2.1
          have e1 := hJ.box.2.2.1
          have hho := HHo.out wr _ _ hbw hJ.stem.lettersV hJ.loop.lettersV
          clear hJ HJ
          generalize Ls.length = Lsn at *
          generalize Ll.length = Lln at *
          go_wp2_with (go_at_call 18; refine hho.mono ?_; rintro e w6 ⟨rfl, hb6⟩)
          go_ret2
          exact ⟨rfl, hbw.trans (hb6.mono hbw.size)⟩
end Go.Proofs.YtnicbkkkecfdpaaGreatDoor
