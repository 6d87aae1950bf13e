/-
  Joined out of PFol, Reaches, PBeh0, PBeh, PBhd, RefAhead, RefCount, RefCode, RefFirst, RefWorked, RefEval, RefValues, in their order: a claim bears at most so many files.
-/
import Derived.Test.YtdlpmomohbdpgaaGreatDoorLateC
import Derived.Deep.CutRange
import Derived.Deep.CutBlock
import Derived.Deep.DeepCutAuto
import Derived.Deep.RegionLaw
import Derived.Test.YtdlpmomohbdpgaaGreatDoorRefLook
import Derived.Test.YtdlpmomohbdpgaaGreatDoorLogicRead
import Derived.Test.YtdlpmomohbdpgaaGreatDoorRefModel
import Derived.Test.YtdlpmomohbdpgaaGreatDoorLateB
import Derived.Test.YtdlpmomohbdpgaaGreatDoorRefExpr2
import Derived.Test.YtdlpmomohbdpgaaGreatDoorIntsOf
import Derived.Deep.AppendLies
import Derived.Deep.RegionHeld3
/-
  The contract of the survey's follows.
-/
namespace Go.Proofs.YtdlpmomohbdpgaaGreatDoor
open Go.ChangeShapes Go.WideShapes Go.ChangeAt Go.RowKit Go.Deep Go.Maps
open Terms Tm

set_option maxRecDepth 20000 in
theorem zeroAnswer (w : World) : (zeroValue 123).run Tryz.prog w = .ok (.agg #[.bool false]) w := by kernel_rfl
theorem folR_sign {l : List (Int × Int)} {x y y' : List Bool} {c d d' : Int} (hl : y.length = y'.length) (ht : tcode l y d = 0) (ht' : tcode l y' d' = 0) (e : signN l (tru l y d) = signN l (tru l y' d')) : folR l x c y d = folR l x c y' d' := by
  have hf : fcode l x c y d = fcode l x c y' d' := by unfold fcode; rw [hl, ht, ht']
  unfold folR
  rw [hf]
  split
  · exact decide_eq_decide.2 (fol_sign e)
  · rfl
/-- what follows leaves. -/
def FoPost (w0 w : World) (B bs bl n : Nat) (va vr pv fv : Value) (m : Mo) (ps : List (List (Int × Int))) (l : List (Int × Int)) (ho : Option Addr) (hc : Nat) (b : Bool) (e : Ending) (w' : World) : Prop :=
  e = .returned (.tuple #[.bool b, .int .i64 0]) ∧ Sk bs bl w w' ∧ Hid (SvOk w0 w' B bs bl (n + 1) va vr pv fv m ps l ho hc)
/-- eight cells of a link. -/
def Li8 (w : World) (g : Nat) (y0 y1 y2 y3 y4 y5 : Bool) (c s : Int) : Prop := w.cell? ⟨g, 0, none⟩ = some (.bool y0) ∧ w.cell? ⟨g, 1, none⟩ = some (.bool y1) ∧ w.cell? ⟨g, 2, none⟩ = some (.bool y2) ∧ w.cell? ⟨g, 3, none⟩ = some (.bool y3) ∧ w.cell? ⟨g, 4, none⟩ = some (.bool y4) ∧ w.cell? ⟨g, 5, none⟩ = some (.bool y5) ∧ w.cell? ⟨g, 6, none⟩ = some (.int .i64 c) ∧ w.cell? ⟨g, 7, none⟩ = some (.int .i64 s)
theorem Li8.of {w : World} {g : Nat} {y0 y1 y2 y3 y4 y5 : Bool} {c s : Int} {t : TypeId} (h : w.heap[g]? = some (.cells #[.bool y0, .bool y1, .bool y2, .bool y3, .bool y4, .bool y5, .int .i64 c, .int .i64 s] t (0, 0))) : Li8 w g y0 y1 y2 y3 y4 y5 c s := by
  refine ⟨?_, ?_, ?_, ?_, ?_, ?_, ?_, ?_⟩ <;> simp [World.cell?, h]

theorem Li8.later {w w' : World} {g : Nat} {y0 y1 y2 y3 y4 y5 : Bool} {c s : Int} (h : Li8 w g y0 y1 y2 y3 y4 y5 c s) (hg : g < w.heap.size) (hb : Below w.heap.size w w') : Li8 w' g y0 y1 y2 y3 y4 y5 c s := by
  obtain ⟨h0, h1, h2, h3, h4, h5, h6, h7⟩ := h
  exact ⟨(hb.cell (p := ⟨g, 0, none⟩) hg).trans h0, (hb.cell (p := ⟨g, 1, none⟩) hg).trans h1, (hb.cell (p := ⟨g, 2, none⟩) hg).trans h2, (hb.cell (p := ⟨g, 3, none⟩) hg).trans h3, (hb.cell (p := ⟨g, 4, none⟩) hg).trans h4, (hb.cell (p := ⟨g, 5, none⟩) hg).trans h5, (hb.cell (p := ⟨g, 6, none⟩) hg).trans h6, (hb.cell (p := ⟨g, 7, none⟩) hg).trans h7⟩
set_option maxHeartbeats 3200000 in
set_option maxRecDepth 20000 in
theorem follows_any (w0 w : World) (B bs bl n : Nat) (va vr pv fv : Value) (m : Mo) (ps : List (List (Int × Int))) (l : List (Int × Int)) (ho : Option Addr) (hc : Nat) (x y : List Bool) (c d : Nat) (lo no so lo2 no2 so2 : Option Addr) (lc nn nc sc lc2 nn2 nc2 sc2 : Nat)
    (hB : 0 < w0.heap.size) (hT : TabAt w0) (hV : TaskV w0 va vr pv fv m ps l) (hk : tkcode m ps l = 0) (hS : SvOk w0 w B bs bl n va vr pv fv m ps l ho hc) (hn : n < 1000000000000)
    (hx : BoolsV w (.slice lo ps.length lc) x) (hy : BoolsV w (.slice lo2 ps.length lc2) y) (hsg : IntsV w (.slice so2 (2 ^ (aheadL l).length) sc2) (sgL l y)) (hxl : x.length = ps.length) (hyl : y.length = ps.length) (hcN : c < 2 ^ (aheadL l).length) (hdN : d < 2 ^ (aheadL l).length) :
    Calls Tryz.prog 41 #[.pointer (some ⟨B, 0, none⟩), .agg #[.slice lo ps.length lc, .slice no nn nc, .slice so (2 ^ (aheadL l).length) sc], .int .i64 (c : Int), .agg #[.slice lo2 ps.length lc2, .slice no2 nn2 nc2, .slice so2 (2 ^ (aheadL l).length) sc2], .int .i64 (d : Int)] w (FoPost w0 w B bs bl n va vr pv fv m ps l ho hc (folR l x (c : Int) y (d : Int))) := by
  obtain ⟨hp0, hl0⟩ := tk_zero hk
  obtain ⟨_, hps6⟩ := pcode_m hp0
  obtain ⟨_, _, hz, _, h6⟩ := lcode_zero hl0
  obtain ⟨fo, fc, rfl, _⟩ := id hV.fo
  have hN64 : 2 ^ (aheadL l).length ≤ 64 := Nat.pow_le_pow_right (show 0 < 2 by decide) h6
  have htc : ∀ (z : List Bool) (k : Nat), z.length = ps.length → k < 2 ^ (aheadL l).length → tcode l z (k : Int) = 0 := fun z k hz1 hk1 => by
    refine tcode_ok (by rw [hz1]; exact hl0) fun hno => ?_
    unfold ClaimNo at hno
    have : ((2 ^ (aheadL l).length : Nat) : Int) = (2 : Int) ^ (aheadL l).length := by push_cast; rfl
    rcases hno with hno | hno
    · omega
    · rw [← this] at hno; omega
  obtain ⟨g0, hg0, hgl⟩ := hS.li
  -- the sign
  obtain ⟨sb, soff, rfl, hsb, hsat⟩ : ∃ sb soff, so2 = some ⟨sb, soff, none⟩ ∧ sb < w.heap.size ∧ w.cell? ⟨sb, soff + d, none⟩ = some (.int .i64 (sgAt l y d)) := by
    obtain ⟨ao, cap, e1, h1⟩ := hsg
    injection e1 with e1 _ _
    subst e1
    obtain ⟨b, off, rfl, hb, hat⟩ := h1 (by intro e; have := congrArg List.length e; rw [sgL_len] at this; simp at this)
    refine ⟨b, off, rfl, hb, ?_⟩
    have := hat d (by rw [sgL_len]; exact hdN)
    rw [this, sgL_at hdN]
  obtain ⟨sg, hsgd⟩ : ∃ sg, sgAt l y d = sg := ⟨_, rfl⟩
  have hsgb : -9223372036854775808 ≤ sg ∧ sg ≤ 9223372036854775807 := by
    obtain ⟨b0, b1⟩ := signTo_bounds l (tru l y (d : Int)) (aheadL l).length
    have e : sg = signTo l (tru l y (d : Int)) (aheadL l).length := by rw [← hsgd]; rfl
    have : ((2 ^ (aheadL l).length : Nat) : Int) = (2 : Int) ^ (aheadL l).length := by push_cast; rfl
    rw [← this] at b1
    omega
  rw [hsgd] at hsat
  obtain ⟨W3, hW3⟩ : ∃ W3, W3 = ((w.alloc (.cells #[.slice lo ps.length lc, .slice no nn nc, .slice so (2 ^ (aheadL l).length) sc] 88)).alloc (.cells #[.slice lo2 ps.length lc2, .slice no2 nn2 nc2, .slice (some ⟨sb, soff, none⟩) (2 ^ (aheadL l).length) sc2] 88)).alloc (.cells #[.bool false, .bool false, .bool false, .bool false, .bool false, .bool false, .int .i64 (c : Int), .int .i64 sg] 121) := ⟨_, rfl⟩
  have hb3 : Below w.heap.size w W3 := by rw [hW3]; exact (((Below.refl _ _).alloc (Nat.le_refl _) _).alloc (by simp) _).alloc (by simp; omega) _
  have hz3 : W3.heap.size = w.heap.size + 3 := by rw [hW3]; simp
  have hg3 : W3.heap[w.heap.size + 2]? = some (.cells #[.bool false, .bool false, .bool false, .bool false, .bool false, .bool false, .int .i64 (c : Int), .int .i64 sg] 121 (0, 0)) := by
    rw [hW3]
    have := (MapKept.heap_alloc ((w.alloc (.cells #[.slice lo ps.length lc, .slice no nn nc, .slice so (2 ^ (aheadL l).length) sc] 88)).alloc (.cells #[.slice lo2 ps.length lc2, .slice no2 nn2 nc2, .slice (some ⟨sb, soff, none⟩) (2 ^ (aheadL l).length) sc2] 88)) (.cells #[.bool false, .bool false, .bool false, .bool false, .bool false, .bool false, .int .i64 (c : Int), .int .i64 sg] 121)).1
    simpa using this
  obtain ⟨w4, y0, y1, y2, y3, y4, y5, hcopy, hsix, hg4, hgr4⟩ := copy_link W3.drew (w.heap.size + 2) lo ps.length lc x (c : Int) sg 121 3 (hx.below hb3.drew) hxl hps6 hg3
  have hb4 : Below w.heap.size w w4 := ⟨hgr4.os.trans hb3.os, hgr4.tape.trans hb3.tape, hgr4.output.trans hb3.output, Nat.le_trans hb3.size hgr4.size, fun i hi => (hgr4.block i (Nat.lt_of_lt_of_le hi hb3.size) (by intro e; injection e with e; omega)).trans (hb3.block i hi)⟩
  have hli4 := Li8.of hg4
  have hlv : linkV x (c : Int) sg = .agg #[.bool y0, .bool y1, .bool y2, .bool y3, .bool y4, .bool y5, .int .i64 (c : Int), .int .i64 sg] := by unfold linkV; rw [hsix]; rfl
  obtain ⟨kl, hkl⟩ := keyLink y0 y1 y2 y3 y4 y5 (c := (c : Int)) (s := sg) (by omega) hsgb
  have hz4 : w.heap.size + 3 ≤ w4.heap.size := by have := hgr4.size; have e : W3.drew.heap.size = W3.heap.size := rfl; omega
  have hk4 : Below (w.heap.size + 2) W3 w4 := ⟨hgr4.os, hgr4.tape, hgr4.output, hgr4.size, fun i hi => hgr4.block i (by show i < W3.heap.size; omega) (by intro e; injection e with e; omega)⟩
  have HBx : Hid (∀ w', Below (w.heap.size + 2) W3 w' → w'.cell? ⟨w.heap.size, 0, none⟩ = some (.slice lo ps.length lc) ∧ w'.cell? ⟨w.heap.size + 1, 0, none⟩ = some (.slice lo2 ps.length lc2)) := fun w' h => by
    refine ⟨(h.cell (p := ⟨w.heap.size, 0, none⟩) (by show w.heap.size < _; omega)).trans ?_, (h.cell (p := ⟨w.heap.size + 1, 0, none⟩) (by show w.heap.size + 1 < _; omega)).trans ?_⟩ <;> (rw [hW3]; simp [go_sem])
  have hs2 : ∀ o1 o2, ((w.alloc o1).alloc o2).cell? ⟨sb, soff + d, none⟩ = some (.int .i64 sg) := fun o1 o2 => (Below.cell (p := ⟨sb, soff + d, none⟩) (((Below.refl w.heap.size w).alloc (Nat.le_refl _) o1).alloc (by simp) o2) hsb).trans hsat
  have HLk : Hid (∀ w', w'.heap[bl]? = w.heap[bl]? → (Instr.lookup 70 (.map (some bl)) (.agg #[.bool y0, .bool y1, .bool y2, .bool y3, .bool y4, .bool y5, .int .i64 (c : Int), .int .i64 sg]) true).run Tryz.prog w' = .ok (.tuple #[(g0 kl).getD (.agg #[.bool false]), .bool (g0 kl).isSome]) w') := fun w' h => (hg0.kept h).look keyedLink Tryz.underlying70 (zeroAnswer _) hkl
  have HS6 : Hid (∀ w', Below w.heap.size w w' → w'.cell? ⟨B, 3, none⟩ = some (.slice fo l.length fc) ∧ w'.cell? ⟨B, 6, none⟩ = some (.map (some bl))) := fun w' h => ⟨(hS.box.later h).c3, (hS.box.later h).c6⟩
  have hbl : bl < w.heap.size := hg0.lt
  have hdi : (d : Int) < ((2 ^ (aheadL l).length : Nat) : Int) := by omega
  have HLi : Hid (∀ w', Below w4.heap.size w4 w' → Li8 w' (w.heap.size + 1 + 1) y0 y1 y2 y3 y4 y5 (c : Int) sg) := fun w' h => hli4.later (by omega) h
  unfold FoPost
  cases hgk : g0 kl with
  | some v =>
    obtain ⟨x', c', sg', b, hx'l, hkl', rfl, hall⟩ := hgl kl v hgk
    have hinj := keyedLink.inj hkl' (hlv ▸ hkl)
    obtain ⟨rfl, rfl, rfl⟩ := linkV_inj (hx'l.trans hxl.symm) hinj
    have hbv : folR l x' (c : Int) y (d : Int) = b := hall y (d : Int) hyl (htc y d hyl hdN) (by rw [← hsgd]; rfl)
    rw [hbv]
    have HLk2 : Hid (∀ w', w'.heap[bl]? = w.heap[bl]? → (Instr.lookup 70 (.map (some bl)) (.agg #[.bool y0, .bool y1, .bool y2, .bool y3, .bool y4, .bool y5, .int .i64 (c : Int), .int .i64 sg']) true).run Tryz.prog w' = .ok (.tuple #[.agg #[.bool b], .bool true]) w') := fun w' h => by have := HLk.out w' h; rw [hgk] at this; exact this
    have HFin : Hid (∀ w', Below w.heap.size w w' → Sk bs bl w w' ∧ SvOk w0 w' B bs bl (n + 1) va vr pv (.slice fo l.length fc) m ps l ho hc) := fun w' h => ⟨Sk.of h, (hS.below h).mono (Nat.le_succ _)⟩
    generalize ps.length = pn at *
    generalize 2 ^ (aheadL l).length = N at *
    generalize l.length = fn at *
    clear HLk hS hgl hg0 hall hbv hT hV hx hy hsg htc hli4 hkl' hlv hkl hinj hgr4 hg3 hsix
    go_enter Tryz.func41, Tryz.ntmps41
    go_wp2_with fail
    rw [← hW3]
    obtain ⟨u0, u1⟩ := HBx.out W3 (Below.refl _ _)
    obtain ⟨v0, v1⟩ := HBx.out w4 hk4
    clear hW3
    go_region_held3 (fun w' => w'.cell? ⟨w.heap.size, 0, none⟩ = some (.slice lo pn lc))
      (first | exact u0 | exact v0)
      (fail)
    have hbl4 : w4.heap[bl]? = w.heap[bl]? := hb4.block bl hbl
    obtain ⟨_, q6⟩ := HS6.out w4 hb4
    obtain ⟨i0, i1, i2, i3, i4, i5, i6, i7⟩ := HLi.out w4 (Below.refl _ _)
    clear u0 u1 v0 v1 hs2 HBx
    go_wp2_with fail
    go_cut [13, 14] (fun u13 u14 w' => ∃ g13, u13 = .pointer (some ⟨g13, 0, none⟩) ∧ u14 = .bool true ∧ Below w4.heap.size w4 w' ∧ w'.cell? ⟨g13, 0, none⟩ = some (.bool b))
    case first =>
      have hal : Below w4.heap.size w4 (w4.alloc (.cells #[.bool false] 123)) := (Below.refl _ _).alloc (Nat.le_refl _) _
      have hlA := HLk2.out w4.drew hbl4
      have hlB := HLk2.out (w4.alloc (.cells #[.bool false] 123)).drew ((hal.block bl (Nat.lt_of_lt_of_le hbl hb4.size)).trans hbl4)
      obtain ⟨_, q6'⟩ := HS6.out _ (hb4.trans (hal.mono hb4.size))
      obtain ⟨j0, j1, j2, j3, j4, j5, j6, j7⟩ := HLi.out _ hal
      go_region_law (fail)
      all_goals go_wp2_with fail
      all_goals go_meet
      all_goals exact ⟨_, rfl, rfl, ((Below.refl _ _).alloc (Nat.le_refl _) _).drew, by simp [go_sem]⟩
    case rest =>
      obtain ⟨g13, rfl, rfl, hb5, d0⟩ := hcut
      have hbF := hb4.trans (hb5.mono hb4.size)
      go_wp2_with fail
      go_ret2
      obtain ⟨r1, r2⟩ := HFin.out _ hbF
      exact ⟨rfl, r1, r2⟩
  | none =>
    have HLk2 : Hid (∀ w', w'.heap[bl]? = w.heap[bl]? → (Instr.lookup 70 (.map (some bl)) (.agg #[.bool y0, .bool y1, .bool y2, .bool y3, .bool y4, .bool y5, .int .i64 (c : Int), .int .i64 sg]) true).run Tryz.prog w' = .ok (.tuple #[.agg #[.bool false], .bool false]) w') := fun w' h => by have := HLk.out w' h; rw [hgk] at this; exact this
    have hfc : fcode l x (c : Int) y (d : Int) = 0 := by
      unfold fcode
      rw [if_neg (by rw [hxl, hyl]; simp), if_neg (by rw [htc x c hxl hcN]; simp)]
      exact htc y d hyl hdN
    have HFo : Hid (∀ w', Below w.heap.size w w' → Calls Tryz.prog 62 #[.slice fo l.length fc, .slice lo ps.length lc, .int .i64 (c : Int), .slice lo2 ps.length lc2, .int .i64 (d : Int)] w' fun e w'' => e = .returned (.tuple #[.bool (folR l x (c : Int) y (d : Int)), .int .i64 0]) ∧ Below w'.heap.size w' w'') := fun w' h => by
      have h0 := hS.bel.trans (h.mono hS.bel.size)
      have := lfol_any _ _ _ l x y (c : Int) (d : Int) w' (Nat.lt_of_lt_of_le hB h0.size) (hT.below h0 hB) (hV.fo.below h0) (hx.below h) (hy.below h)
      rw [hfc] at this
      exact this
    have hLO : LinkOk ps l kl (.agg #[.bool (folR l x (c : Int) y (d : Int))]) := ⟨x, (c : Int), sg, _, hxl, hlv ▸ hkl, rfl, fun y' d' h1 h2 h3 => folR_sign (h1.trans hyl.symm) h2 (htc y d hyl hdN) (h3.trans (by rw [← hsgd]; rfl))⟩
    have HPut : Hid (∀ w', Below w.heap.size w w' → ∃ w'', (Instr.mapUpdate 70 (.map (some bl)) (.agg #[.bool y0, .bool y1, .bool y2, .bool y3, .bool y4, .bool y5, .int .i64 (c : Int), .int .i64 sg]) (.agg #[.bool (folR l x (c : Int) y (d : Int))])).run Tryz.prog w'.drew = .ok () w'' ∧ w'.grownBy w'' (some bl) ∧ Sk bs bl w w'' ∧ SvOk w0 w'' B bs bl (n + 1) va vr pv (.slice fo l.length fc) m ps l ho hc) := fun w' h => by
      have hm1 : MapIs w'.drew 121 bl n g0 := hg0.kept (h.block _ hg0.lt)
      obtain ⟨w'', h1, h2, h3⟩ := hm1.put keyedLink Tryz.underlying70 (by unfold maxLen; omega) (val := .agg #[.bool (folR l x (c : Int) y (d : Int))]) hkl (keyedLink.key hkl)
      have h4 : w'.grownBy w'' (some bl) := ⟨h3.os, h3.tape, h3.output, h3.size, h3.block⟩
      exact ⟨w'', h1, h4, (Sk.of h).trans (Sk.grown h4 (.inr rfl)), (hS.below h).putL h4 hgl h2 hLO⟩
    generalize folR l x (c : Int) y (d : Int) = b at *
    generalize ps.length = pn at *
    generalize 2 ^ (aheadL l).length = N at *
    generalize l.length = fn at *
    clear HLk hS hgl hg0 hT hV hx hy hsg htc hli4 hlv hkl hgr4 hg3 hsix hLO hfc
    go_enter Tryz.func41, Tryz.ntmps41
    go_wp2_with fail
    rw [← hW3]
    obtain ⟨u0, u1⟩ := HBx.out W3 (Below.refl _ _)
    obtain ⟨v0, v1⟩ := HBx.out w4 hk4
    clear hW3
    go_region_held3 (fun w' => w'.cell? ⟨w.heap.size, 0, none⟩ = some (.slice lo pn lc))
      (first | exact u0 | exact v0)
      (fail)
    have hbl4 : w4.heap[bl]? = w.heap[bl]? := hb4.block bl hbl
    obtain ⟨_, q6⟩ := HS6.out w4 hb4
    obtain ⟨i0, i1, i2, i3, i4, i5, i6, i7⟩ := HLi.out w4 (Below.refl _ _)
    clear u0 u1 v0 v1 hs2
    go_wp2_with fail
    go_cut [13, 14] (fun u13 u14 w' => ∃ g13, u13 = .pointer (some ⟨g13, 0, none⟩) ∧ u14 = .bool false ∧ Below w4.heap.size w4 w')
    case first =>
      have hal : Below w4.heap.size w4 (w4.alloc (.cells #[.bool false] 123)) := (Below.refl _ _).alloc (Nat.le_refl _) _
      have hlA := HLk2.out w4.drew hbl4
      have hlB := HLk2.out (w4.alloc (.cells #[.bool false] 123)).drew ((hal.block bl (Nat.lt_of_lt_of_le hbl hb4.size)).trans hbl4)
      obtain ⟨_, q6'⟩ := HS6.out _ (hb4.trans (hal.mono hb4.size))
      obtain ⟨j0, j1, j2, j3, j4, j5, j6, j7⟩ := HLi.out _ hal
      go_region_law (fail)
      all_goals go_wp2_with fail
      all_goals go_meet
      all_goals exact ⟨_, rfl, rfl, ((Below.refl _ _).alloc (Nat.le_refl _) _).drew⟩
    case rest =>
      obtain ⟨g13, rfl, rfl, hb5⟩ := hcut
      have hbF := hb4.trans (hb5.mono hb4.size)
      have HSF : Hid (∀ w', Below wc.heap.size wc w' → w'.cell? ⟨B, 3, none⟩ = some (.slice fo fn fc) ∧ w'.cell? ⟨w.heap.size, 0, none⟩ = some (.slice lo pn lc) ∧ w'.cell? ⟨w.heap.size + 1, 0, none⟩ = some (.slice lo2 pn lc2)) := fun w' h => by
        have h1 := hb5.trans (h.mono hb5.size)
        obtain ⟨e1, e2⟩ := HBx.out w' (hk4.trans (h1.mono (by omega)))
        exact ⟨(HS6.out w' (hbF.trans (h.mono hbF.size))).1, e1, e2⟩
      have hfo := HFo.out _ hbF.drew
      have hB0 : Below wc.heap.size wc wc := Below.refl _ _
      go_wp2_with fail
      go_region_held3 (fun w' => w'.cell? ⟨B, 3, none⟩ = some (.slice fo fn fc) ∧ w'.cell? ⟨w.heap.size, 0, none⟩ = some (.slice lo pn lc) ∧ w'.cell? ⟨w.heap.size + 1, 0, none⟩ = some (.slice lo2 pn lc2))
        (first | exact HSF.out _ hb6 | exact HSF.out _ hB0.drew | exact HSF.out _ hB0)
        (first
          | (go_at_call 62; refine hfo.mono ?_; rintro e w6 ⟨rfl, hb6'⟩; have hb6 := hB0.drew.trans (hb6'.mono hB0.drew.size)))
      have hbG := hbF.trans (hb6.mono hbF.size)
      obtain ⟨w7, hput, hg7, r1, r2⟩ := HPut.out _ hbG
      obtain ⟨_, z6⟩ := HS6.out _ hbG
      obtain ⟨k0, k1, k2, k3, k4, k5, k6, k7⟩ := HLi.out w6 (hb5.trans (hb6.mono hb5.size))
      have HR : Hid (Sk bs bl w w7 ∧ SvOk w0 w7 B bs bl (n + 1) va vr pv (.slice fo fn fc) m ps l ho hc) := ⟨r1, r2⟩
      clear r1 r2 hg7 HPut
      go_wp2_with fail
      go_region_law (fail)
      all_goals go_wp2_with fail
      all_goals go_ret2
      all_goals exact ⟨rfl, HR.out.1, HR.out.2⟩
end Go.Proofs.YtdlpmomohbdpgaaGreatDoor

/-
  Plain mathematics of what is reached.
-/
namespace Go.Proofs.YtdlpmomohbdpgaaGreatDoor
open Terms Tm

/-- reached from the first state on. -/
inductive RSt (nx : Int → List Int) (first : Int) : Int → Prop where
  | first : RSt nx first first
  | next {x y : Int} : RSt nx first x → y ∈ nx x → RSt nx first y
open Classical in
/-- the states that are reached, rising. -/
noncomputable def reachN (nx : Int → List Int) (first : Int) (N : Nat) : List Int := ((List.range N).filter (fun j : Nat => decide (RSt nx first (j : Int)))).map (fun j : Nat => (j : Int))
theorem reachN_rise (nx : Int → List Int) (first : Int) (N : Nat) : Rise (reachN nx first N) := by
  unfold reachN Rise
  rw [List.pairwise_map]
  refine List.Pairwise.imp (fun {a b} h => ?_) (List.Pairwise.filter _ List.pairwise_lt_range)
  omega
theorem reachN_mem (nx : Int → List Int) (first : Int) (N : Nat) (x : Int) : x ∈ reachN nx first N ↔ (0 ≤ x ∧ x < N) ∧ RSt nx first x := by
  unfold reachN
  simp only [List.mem_map, List.mem_filter, List.mem_range, decide_eq_true_eq]
  constructor
  · rintro ⟨j, ⟨h1, h2⟩, rfl⟩; exact ⟨⟨by omega, by omega⟩, h2⟩
  · rintro ⟨⟨h0, h1⟩, h2⟩; exact ⟨x.toNat, ⟨by omega, by rw [Int.toNat_of_nonneg h0]; exact h2⟩, by omega⟩
/-- states that are reached are states. -/
theorem RSt.in {nx : Int → List Int} {first : Int} {N : Nat} (hf : 0 ≤ first ∧ first < N) (hn : ∀ x y : Int, 0 ≤ x ∧ x < N → y ∈ nx x → 0 ≤ y ∧ y < N) {x : Int} (h : RSt nx first x) : 0 ≤ x ∧ x < N := by
  induction h with
  | first => exact hf
  | next _ hy ih => exact hn _ _ ih hy
/-- a list without a number twice, sorted, rises. -/
theorem sorted_rise {l : List Int} (h : l.Nodup) : Rise (l.mergeSort leB) := by
  have hp : (l.mergeSort leB).Pairwise (fun x y => leB x y = true) := List.pairwise_mergeSort (le := leB) (by intro a b c; simp only [leB, decide_eq_true_eq]; omega) (by intro a b; simp only [leB, Bool.or_eq_true, decide_eq_true_eq]; omega) l
  have hn : (l.mergeSort leB).Nodup := (List.mergeSort_perm l leB).nodup_iff.2 h
  refine (hp.and hn).imp fun {a b} hab => ?_
  have h1 : a ≤ b := by simpa [leB] using hab.1
  have h2 : a ≠ b := hab.2
  omega
/-- what goes through a list that is closed is all that is reached. -/
theorem closed_reach {nx : Int → List Int} {first : Int} {l : List Int} (hf : first ∈ l) (hr : ∀ x ∈ l, RSt nx first x) (hc : ∀ x ∈ l, ∀ y ∈ nx x, y ∈ l) (x : Int) : x ∈ l ↔ RSt nx first x := by
  refine ⟨hr x, fun h => ?_⟩
  induction h with
  | first => exact hf
  | next _ hy ih => exact hc _ ih _ hy
theorem rise_length : ∀ {l : List Int} {lo N : Int}, Rise l → (∀ x ∈ l, lo ≤ x ∧ x < N) → lo ≤ N → (l.length : Int) ≤ N - lo
  | [], lo, N, _, _, h => by simp; omega
  | x :: l, lo, N, h1, h2, _ => by
    obtain ⟨hx, t⟩ := List.pairwise_cons.1 h1
    have h3 := h2 x (by simp)
    have := rise_length (lo := x + 1) (N := N) t (fun y hy => ⟨by have := hx y hy; omega, (h2 y (by simp [hy])).2⟩) (by omega)
    simp only [List.length_cons]
    omega
/-- how long a list of states may be. -/
theorem nodup_length {l : List Int} {N : Nat} (h : l.Nodup) (hi : ∀ x ∈ l, 0 ≤ x ∧ x < N) : l.length ≤ N := by
  have h1 := rise_length (lo := 0) (N := N) (sorted_rise h) (fun x hx => hi x ((List.mergeSort_perm l leB).mem_iff.1 hx)) (by omega)
  rw [List.length_mergeSort] at h1
  omega
end Go.Proofs.YtdlpmomohbdpgaaGreatDoor

/-
  The spots behind a spot; boxes that stay while spots are laid down.
-/
namespace Go.Proofs.YtdlpmomohbdpgaaGreatDoor
open Go.ChangeShapes Go.WideShapes Go.ChangeAt Go.RowKit Go.Deep Go.Maps
open Terms Tm

/-- the claims of a next state that follow. -/
noncomputable def foTo (l : List (Int × Int)) (x : List Bool) (c : Int) (y : List Bool) (st : Int) : Nat → List (Int × Int)
  | 0 => []
  | k + 1 => if folR l x c y (k : Int) = true then foTo l x c y st k ++ [(st, (k : Int))] else foTo l x c y st k
theorem foTo_len (l : List (Int × Int)) (x : List Bool) (c : Int) (y : List Bool) (st : Int) : ∀ k, (foTo l x c y st k).length ≤ k
  | 0 => Nat.le_refl _
  | k + 1 => by
    rw [foTo]
    have := foTo_len l x c y st k
    split
    · rw [List.length_append, List.length_singleton]; omega
    · omega
/-- the spots behind a spot, state by state. -/
noncomputable def behTo (m : Mo) (ps : List (List (Int × Int))) (l : List (Int × Int)) (code c : Int) : Nat → List (Int × Int)
  | 0 => []
  | i + 1 => behTo m ps l code c i ++ foTo l (letL m ps code) c (letL m ps ((nextL m code).getD i 0)) ((nextL m code).getD i 0) (2 ^ (aheadL l).length)
noncomputable def behL (m : Mo) (ps : List (List (Int × Int))) (l : List (Int × Int)) (code c : Int) : List (Int × Int) := behTo m ps l code c (nextL m code).length
theorem behTo_len {m : Mo} {ps : List (List (Int × Int))} {l : List (Int × Int)} (h : 2 ^ (aheadL l).length ≤ 64) (code c : Int) : ∀ i, (behTo m ps l code c i).length ≤ i * 64
  | 0 => Nat.le_refl _
  | i + 1 => by
    rw [behTo, List.length_append]
    have := behTo_len (m := m) (ps := ps) h code c i
    have := foTo_len l (letL m ps code) c (letL m ps ((nextL m code).getD i 0)) ((nextL m code).getD i 0) (2 ^ (aheadL l).length)
    omega
theorem nextL_st {m : Mo} (hm : mcode m = 0) {x : Int} (hx : 0 ≤ x ∧ x < prodTo m.vars m.vars.length) {y : Int} (hy : y ∈ nextL m x) : 0 ≤ y ∧ y < prodTo m.vars m.vars.length := by
  have h1 := ((upL_spec _).2 y).1 hy
  unfold rawL at h1
  split at h1
  · simp at h1; subst h1; exact hx
  · obtain ⟨j, _, e⟩ := (rawTo_mem (Nat.le_refl _) y).1 h1
    exact ruleDo_state (mcode_vars hm) e
theorem nextL_len {m : Mo} (hm : mcode m = 0) {x : Int} (hx : 0 ≤ x ∧ x < prodTo m.vars m.vars.length) : (nextL m x).length ≤ 4096 := by
  have h1 : (nextL m x).Nodup := by
    have := (upL_spec (rawL m x)).1
    exact List.Pairwise.imp (fun {a b} h => by omega) this
  have h2 := (mcode_vars hm).prod (Nat.le_refl m.vars.length)
  have := nodup_length (N := (prodTo m.vars m.vars.length).toNat) h1 (fun y hy => by have := nextL_st hm hx hy; omega)
  omega
theorem Sk.after {bs bl : Nat} {wb w w' : World} (h : Sk bs bl wb w) (hb : Below wb.heap.size w w') : Sk bs bl wb w' :=
  ⟨hb.os.trans h.os, hb.tape.trans h.tape, hb.output.trans h.output, Nat.le_trans h.size hb.size, fun i hi h1 h2 => (hb.block i hi).trans (h.block i hi h1 h2)⟩
/-- a state in a box. -/
def Bx3 (w : World) (b : Nat) (x y z : Value) : Prop := (w.cell? ⟨b, 0, none⟩ = some x ∧ w.cell? ⟨b, 1, none⟩ = some y ∧ w.cell? ⟨b, 2, none⟩ = some z) ∧ RowTy w (.slice (some ⟨b, 0, none⟩) 1 1) 88
theorem Bx3.new (w : World) (x y z : Value) : Bx3 (w.alloc (.cells #[x, y, z] 88)) w.heap.size x y z := by
  refine ⟨(St3.new w x y z _).2.1, fun a n c e => ?_⟩
  injection e with e _ _
  injection e with e
  subst e
  exact ⟨_, _, (MapKept.heap_alloc w _).1⟩
theorem Bx3.sk {bs bl : Nat} {w w' : World} {b : Nat} {x y z : Value} (h : Bx3 w b x y z) (hs : Sk bs bl w w') (hm : TwoMaps w bs bl) : Bx3 w' b x y z :=
  ⟨⟨hs.cell hm h.1.1, hs.cell hm h.1.2.1, hs.cell hm h.1.2.2⟩, h.2.sk hs hm⟩
theorem Bx3.grown {w w' : World} {b : Nat} {x y z : Value} {own : Option Nat} (h : Bx3 w b x y z) (hg : w.grownBy w' own) (ho : ∀ g, own = some g → ∃ cs fr, w.heap[g]? = some (.cells cs 31 fr)) : Bx3 w' b x y z := by
  obtain ⟨cs, fr, h1⟩ := h.2 _ _ _ rfl
  have e : ∀ i v, w.cell? ⟨b, i, none⟩ = some v → w'.cell? ⟨b, i, none⟩ = some v := fun i v hv => by
    rw [World.cell?_of_block (hg.block b (Array.getElem?_eq_some_iff.1 h1).1 (fun e2 => by
      obtain ⟨cs', fr', h2⟩ := ho _ e2.symm
      rw [h1] at h2
      injection h2 with h2
      injection h2 with _ h3 _
      exact absurd h3 (by decide)))]
    exact hv
  exact ⟨⟨e _ _ h.1.1, e _ _ h.1.2.1, e _ _ h.1.2.2⟩, h.2.grown hg (by decide) ho⟩
theorem Bx3.below {w w' : World} {b : Nat} {x y z : Value} (h : Bx3 w b x y z) (hb : Below w.heap.size w w') : Bx3 w' b x y z := by
  obtain ⟨cs, fr, h1⟩ := h.2 _ _ _ rfl
  have hlt : b < w.heap.size := (Array.getElem?_eq_some_iff.1 h1).1
  exact ⟨⟨(hb.cell (p := ⟨b, 0, none⟩) hlt).trans h.1.1, (hb.cell (p := ⟨b, 1, none⟩) hlt).trans h.1.2.1, (hb.cell (p := ⟨b, 2, none⟩) hlt).trans h.1.2.2⟩, h.2.below hb⟩
/-- the block of a row of spots. -/
theorem SpO.own {w : World} {base : Nat} {vo : Option Addr} {n cap : Nat} {x : List (Int × Int)} (h : SpO w base (.slice vo n cap) x) (o : Obj) : ∀ g, (Value.slice vo n cap).ownBlock = some g → base ≤ g ∧ ∃ cs fr, (w.alloc o).heap[g]? = some (.cells cs 31 fr) := by
  intro g hg
  rcases h.2 with ⟨h0, _⟩ | ⟨g', cap', cur, h1, h2, h3, _⟩
  · rw [h0] at hg; simp [Value.ownBlock] at hg
  · rw [h1] at hg
    simp [Value.ownBlock] at hg
    subst hg
    exact ⟨h2, cur, _, (Below.heap_alloc w o g' (Array.getElem?_eq_some_iff.1 h3).1).trans h3⟩
end Go.Proofs.YtdlpmomohbdpgaaGreatDoor

/-
  The contract of the survey's behind.
-/
namespace Go.Proofs.YtdlpmomohbdpgaaGreatDoor
open Go.ChangeShapes Go.WideShapes Go.ChangeAt Go.RowKit Go.Deep Go.Maps
open Terms Tm

/-- what behind leaves. -/
def BhPost (w0 w : World) (B bs bl n : Nat) (va vr pv fv : Value) (m : Mo) (ps : List (List (Int × Int))) (l : List (Int × Int)) (ho : Option Addr) (hc : Nat) (code c : Int) (e : Ending) (w' : World) : Prop :=
  Sk bs bl w w' ∧ Hid (SvOk w0 w' B bs bl (n + 300000) va vr pv fv m ps l ho hc) ∧ ((wcode m code = 0 ∧ ∃ so sc, e = .returned (.tuple #[.slice so (behL m ps l code c).length sc, .int .i64 0]) ∧ Hid (SpO w' w.heap.size (.slice so (behL m ps l code c).length sc) (behL m ps l code c))) ∨ (wcode m code ≠ 0 ∧ e = .returned (.tuple #[.slice none 0 0, .int .i64 (wcode m code)])))

set_option maxHeartbeats 1600000 in
set_option maxRecDepth 20000 in
/-- of what is no state. -/
theorem behind_out (w0 w : World) (B bs bl n : Nat) (va vr pv fv : Value) (m : Mo) (ps : List (List (Int × Int))) (l : List (Int × Int)) (ho : Option Addr) (hc : Nat) (code c : Int) (hI : -9223372036854775808 ≤ code ∧ code ≤ 9223372036854775807) (hB : 0 < w0.heap.size) (hT : TabAt w0) (hV : TaskV w0 va vr pv fv m ps l) (hk : tkcode m ps l = 0) (hS : SvOk w0 w B bs bl n va vr pv fv m ps l ho hc) (hn : n + 300000 < 1000000000000) (hw : wcode m code ≠ 0) :
    Calls Tryz.prog 15 #[.pointer (some ⟨B, 0, none⟩), .agg #[.int .i64 code, .int .i64 c]] w (BhPost w0 w B bs bl n va vr pv fv m ps l ho hc code c) := by
  have hb1 : Below w.heap.size w (w.alloc (.cells #[.int .i64 code, .int .i64 c] 31)) := (Below.refl _ _).alloc (Nat.le_refl _) _
  have hst := stateOf_any w0 _ B bs bl n va vr pv fv m ps l ho hc code hI hB hT hV hk (hS.below hb1) (by omega)
  have hst2 : Calls Tryz.prog 40 #[.pointer (some ⟨B, 0, none⟩), .int .i64 code] (w.alloc (.cells #[.int .i64 code, .int .i64 c] 31)) fun e w' => e = .returned (.tuple #[.agg #[.slice none 0 0, .slice none 0 0, .slice none 0 0], .int .i64 (wcode m code)]) ∧ Hid (Sk bs bl w w' ∧ SvOk w0 w' B bs bl (n + 1) va vr pv fv m ps l ho hc) := hst.mono fun e w' ⟨h1, h2, h3⟩ => by
    rcases h3 with ⟨h4, _⟩ | ⟨_, h4⟩
    · exact absurd h4 hw
    · exact ⟨h4, (Sk.of hb1).trans h1, h2.out⟩
  unfold BhPost
  have HW : Hid (wcode m code ≠ 0) := hw
  have hw2 : ¬ wcode m code = 0 := hw
  generalize wcode m code = wc at *
  clear hst hS hT hV hk hw
  go_enter Tryz.func15, Tryz.ntmps15
  go_wp2_with (first | (go_at_call 40; refine hst2.mono ?_; rintro e w2 ⟨rfl, HR⟩))
  go_ret2
  have hb2 : ∀ o, Below w2.heap.size w2 (w2.alloc o) := fun o => (Below.refl _ _).alloc (Nat.le_refl _) o
  exact ⟨HR.out.1.trans (Sk.of (hb2 _)), (HR.out.2.below (hb2 _)).mono (by omega), .inr ⟨HW.out, rfl⟩⟩

set_option maxHeartbeats 6400000 in
set_option maxRecDepth 20000 in
/-- of a state. -/
theorem behind_in (w0 w : World) (B bs bl n : Nat) (va vr pv fv : Value) (m : Mo) (ps : List (List (Int × Int))) (l : List (Int × Int)) (ho : Option Addr) (hc : Nat) (code : Int) (c : Nat) (hI : -9223372036854775808 ≤ code ∧ code ≤ 9223372036854775807) (hB : 0 < w0.heap.size) (hT : TabAt w0) (hV : TaskV w0 va vr pv fv m ps l) (hk : tkcode m ps l = 0) (hS : SvOk w0 w B bs bl n va vr pv fv m ps l ho hc) (hn : n + 300000 < 1000000000000) (hcr : 0 ≤ code ∧ code < prodTo m.vars m.vars.length) (hcN : c < 2 ^ (aheadL l).length) :
    Calls Tryz.prog 15 #[.pointer (some ⟨B, 0, none⟩), .agg #[.int .i64 code, .int .i64 (c : Int)]] w (BhPost w0 w B bs bl n va vr pv fv m ps l ho hc code (c : Int)) := by
  obtain ⟨hp0, hl0⟩ := tk_zero hk
  obtain ⟨hm0, _⟩ := pcode_m hp0
  obtain ⟨_, _, _, _, h6⟩ := lcode_zero hl0
  have hw := wcode_yes hm0 hcr
  have hpr := ((mcode_vars hm0).prod (Nat.le_refl m.vars.length)).2
  have hN64 : 2 ^ (aheadL l).length ≤ 64 := Nat.pow_le_pow_right (show 0 < 2 by decide) h6
  have hnn := nextL_len hm0 hcr
  obtain ⟨W1, hW1⟩ : ∃ W1, W1 = w.alloc (.cells #[.int .i64 code, .int .i64 (c : Int)] 31) := ⟨_, rfl⟩
  have hb1 : Below w.heap.size w W1 := by rw [hW1]; exact (Below.refl _ _).alloc (Nat.le_refl _) _
  have hs1 : W1.cell? ⟨w.heap.size, 0, none⟩ = some (.int .i64 code) ∧ W1.cell? ⟨w.heap.size, 1, none⟩ = some (.int .i64 (c : Int)) := by rw [hW1]; constructor <;> simp [go_sem]
  have hS1 := hS.below hb1
  have hst := stateOf_any w0 W1 B bs bl n va vr pv fv m ps l ho hc code hI hB hT hV hk hS1 (by omega)
  have hst2 : Calls Tryz.prog 40 #[.pointer (some ⟨B, 0, none⟩), .int .i64 code] W1 fun e w' => ∃ lo lc no nc so sc, e = .returned (.tuple #[.agg #[.slice lo ps.length lc, .slice no (nextL m code).length nc, .slice so (2 ^ (aheadL l).length) sc], .int .i64 0]) ∧ Hid (Sk bs bl w w' ∧ SvOk w0 w' B bs bl (n + 1) va vr pv fv m ps l ho hc ∧ StOk w' m ps l code (.agg #[.slice lo ps.length lc, .slice no (nextL m code).length nc, .slice so (2 ^ (aheadL l).length) sc])) ∧ Hid (w'.cell? ⟨w.heap.size, 0, none⟩ = some (.int .i64 code) ∧ w'.cell? ⟨w.heap.size, 1, none⟩ = some (.int .i64 (c : Int))) := hst.mono fun e w' ⟨h1, h2, h3⟩ => by
    rcases h3 with ⟨_, lo, lc, no, nc, so, sc, h4, h5⟩ | ⟨h4, _⟩
    · exact ⟨lo, lc, no, nc, so, sc, h4, ⟨(Sk.of hb1).trans h1, h2.out, h5.out⟩, h1.cell hS1.two hs1.1, h1.cell hS1.two hs1.2⟩
    · exact absurd hw h4
  have HSt : Hid (∀ (w' : World) (n' : Nat) (c' : Int), n' < 1000000000000 → 0 ≤ c' ∧ c' < prodTo m.vars m.vars.length → SvOk w0 w' B bs bl n' va vr pv fv m ps l ho hc → Calls Tryz.prog 40 #[.pointer (some ⟨B, 0, none⟩), .int .i64 c'] w' fun e w'' => ∃ lo lc no nn2 nc so sc, e = .returned (.tuple #[.agg #[.slice lo ps.length lc, .slice no nn2 nc, .slice so (2 ^ (aheadL l).length) sc], .int .i64 0]) ∧ Hid (Sk bs bl w' w'' ∧ SvOk w0 w'' B bs bl (n' + 1) va vr pv fv m ps l ho hc ∧ StOk w'' m ps l c' (.agg #[.slice lo ps.length lc, .slice no nn2 nc, .slice so (2 ^ (aheadL l).length) sc]))) := fun w' n' c' hn' hc' hS' => (stateOf_any w0 w' B bs bl n' va vr pv fv m ps l ho hc c' (by omega) hB hT hV hk hS' hn').mono fun e w'' ⟨h1, h2, h3⟩ => by
    rcases h3 with ⟨_, lo, lc, no, nc, so, sc, h4, h5⟩ | ⟨h4, _⟩
    · exact ⟨lo, lc, no, _, nc, so, sc, h4, h1, h2.out, h5.out⟩
    · exact absurd (wcode_yes hm0 hc') h4
  have HFo : Hid (∀ (w' : World) (n' d : Nat) (c' : Int) (lo no so lo2 no2 so2 : Option Addr) (lc nn nc sc lc2 nn2 nc2 sc2 : Nat), n' < 1000000000000 → d < 2 ^ (aheadL l).length → 0 ≤ c' ∧ c' < prodTo m.vars m.vars.length → SvOk w0 w' B bs bl n' va vr pv fv m ps l ho hc → StOk w' m ps l code (.agg #[.slice lo ps.length lc, .slice no nn nc, .slice so (2 ^ (aheadL l).length) sc]) → StOk w' m ps l c' (.agg #[.slice lo2 ps.length lc2, .slice no2 nn2 nc2, .slice so2 (2 ^ (aheadL l).length) sc2]) → Calls Tryz.prog 41 #[.pointer (some ⟨B, 0, none⟩), .agg #[.slice lo ps.length lc, .slice no nn nc, .slice so (2 ^ (aheadL l).length) sc], .int .i64 (c : Int), .agg #[.slice lo2 ps.length lc2, .slice no2 nn2 nc2, .slice so2 (2 ^ (aheadL l).length) sc2], .int .i64 (d : Int)] w' fun e w'' => e = .returned (.tuple #[.bool (folR l (letL m ps code) (c : Int) (letL m ps c') (d : Int)), .int .i64 0]) ∧ Hid (Sk bs bl w' w'' ∧ SvOk w0 w'' B bs bl (n' + 1) va vr pv fv m ps l ho hc)) := fun w' n' d c' lo no so lo2 no2 so2 lc nn nc sc lc2 nn2 nc2 sc2 hn' hd hc' hS' hA hB' => by
    obtain ⟨_, _, _, _, _, _, e1, hx, _, _, _⟩ := hA
    obtain ⟨_, _, _, _, _, _, e2, hy, _, hz, _⟩ := hB'
    simp only [Value.agg.injEq, Array.mk.injEq, List.cons.injEq, Value.slice.injEq, and_true, true_and] at e1 e2
    obtain ⟨⟨rfl, rfl⟩, ⟨rfl, rfl, rfl⟩, rfl, rfl⟩ := e1
    obtain ⟨⟨rfl, rfl⟩, ⟨rfl, rfl, rfl⟩, rfl, rfl⟩ := e2
    exact (follows_any w0 w' B bs bl n' va vr pv fv m ps l ho hc (letL m ps code) (letL m ps c') c d _ _ _ _ _ _ _ _ _ _ _ _ _ _ hB hT hV hk hS' hn' hx hy hz (tk_let hk hcr).2 (tk_let hk hc').2 hcN hd).mono fun e w'' ⟨h1, h2, h3⟩ => ⟨h1, h2, h3.out⟩
  have HCl : Hid (∀ (w' : World) (n' : Nat), SvOk w0 w' B bs bl n' va vr pv fv m ps l ho hc → Calls Tryz.prog 14 #[.pointer (some ⟨B, 0, none⟩)] w' fun e w'' => e = .returned (.int .i64 ((2 ^ (aheadL l).length : Nat) : Int)) ∧ w'' = w') := fun w' n' h => claims_any B _ _ _ _ ho _ hc bs bl w' h6 h.box
  have HNx : Hid (∀ i, i < (nextL m code).length → 0 ≤ (nextL m code).getD i 0 ∧ (nextL m code).getD i 0 < prodTo m.vars m.vars.length) := fun i hi => nextL_st hm0 hcr (by rw [List.getD_eq_getElem?_getD, List.getElem?_eq_getElem hi]; exact List.getElem_mem hi)
  have HBt : Hid (∀ i, behTo m ps l code (c : Int) (i + 1) = behTo m ps l code (c : Int) i ++ foTo l (letL m ps code) (c : Int) (letL m ps ((nextL m code).getD i 0)) ((nextL m code).getD i 0) (2 ^ (aheadL l).length)) := fun _ => rfl
  have HB0 : Hid (behTo m ps l code (c : Int) 0 = []) := rfl
  have HBl : Hid (∀ i, (behTo m ps l code (c : Int) i).length ≤ i * 64) := behTo_len hN64 code (c : Int)
  have HInt : Hid (∀ (w' : World) (lo no so : Option Addr) (lc nc sc : Nat), StOk w' m ps l code (.agg #[.slice lo ps.length lc, .slice no (nextL m code).length nc, .slice so (2 ^ (aheadL l).length) sc]) → ∀ i, i < (nextL m code).length → ∃ b off, no = some ⟨b, off, none⟩ ∧ w'.cell? ⟨b, off + i, none⟩ = some (.int .i64 ((nextL m code).getD i 0))) := fun w' lo no so lc nc sc hA i hi => by
    obtain ⟨_, _, _, _, _, _, e1, _, hx, _, _⟩ := hA
    simp only [Value.agg.injEq, Array.mk.injEq, List.cons.injEq, Value.slice.injEq, and_true, true_and] at e1
    obtain ⟨⟨rfl, rfl⟩, ⟨rfl, rfl⟩, rfl, rfl⟩ := e1
    obtain ⟨ao, cap, e2, h1⟩ := hx
    injection e2 with e2 _ _
    subst e2
    obtain ⟨b, off, rfl, _, hat⟩ := h1 (by intro e; rw [e] at hi; simp at hi)
    exact ⟨b, off, rfl, hat i hi⟩
  have hw0 : w0.heap.size ≤ w.heap.size := hS.bel.size
  have hBlt : B < w.heap.size := hS.box.lt
  unfold BhPost behL
  have HW : Hid (wcode m code = 0) := hw
  generalize (nextL m code).length = nn at *
  generalize behTo m ps l code (c : Int) = bt at *
  generalize m.vars.length = vn at *
  generalize hpn : ps.length = pn at *
  generalize 2 ^ (aheadL l).length = N at *
  clear hst hS hS1 hT hV hk hp0 hl0 hm0 h6 hw hpn hs1 hcN
  subst hW1
  go_enter Tryz.func15, Tryz.ntmps15
  go_wp2_with (first | (go_at_call 40; refine hst2.mono ?_; rintro e w2 ⟨lo, lc, no, nc, so, sc, rfl, HR, HC⟩))
  obtain ⟨hsk2, hsv2, hso2⟩ := HR.out
  obtain ⟨hc0, hc1⟩ := HC.out
  have hb2 : Below w2.heap.size w2 (w2.alloc (.cells #[.slice lo pn lc, .slice no nn nc, .slice so N sc] 88)) := (Below.refl _ _).alloc (Nat.le_refl _) _
  have hbx := Bx3.new w2 (.slice lo pn lc) (.slice no nn nc) (.slice so N sc)
  have hzb : (w2.alloc (.cells #[.slice lo pn lc, .slice no nn nc, .slice so N sc] 88)).heap.size = w2.heap.size + 1 := by simp
  have hskb := hsk2.trans (Sk.of (bs := bs) (bl := bl) hb2)
  have hsvb := hsv2.below hb2
  have hsob := hso2.below hb2
  have hsz2 := hsk2.size
  have hcb1 : (w2.alloc (.cells #[.slice lo pn lc, .slice no nn nc, .slice so N sc] 88)).cell? ⟨w.heap.size, 1, none⟩ = some (.int .i64 (c : Int)) := (hb2.cell (p := ⟨w.heap.size, 1, none⟩) (World.block_lt_of_cell? _ _ hc1)).trans hc1
  generalize w2.alloc (.cells #[.slice lo pn lc, .slice no nn nc, .slice so N sc] 88) = Wb at *
  have htw := hsvb.two
  have HTw : Hid (TwoMaps Wb bs bl) := htw
  have HSob : Hid (∀ w', Sk bs bl Wb w' → StOk w' m ps l code (.agg #[.slice lo pn lc, .slice no nn nc, .slice so N sc])) := fun w' h => hsob.sk h htw
  have HBxb : Hid (∀ w', Sk bs bl Wb w' → (w'.cell? ⟨w2.heap.size, 0, none⟩ = some (.slice lo pn lc) ∧ w'.cell? ⟨w2.heap.size, 1, none⟩ = some (.slice no nn nc) ∧ w'.cell? ⟨w2.heap.size, 2, none⟩ = some (.slice so N sc)) ∧ w'.cell? ⟨w.heap.size, 1, none⟩ = some (.int .i64 (c : Int))) := fun w' h => ⟨(hbx.sk h htw).1, h.cell htw hcb1⟩
  have HSvb : Hid (SvOk w0 Wb B bs bl (n + 1) va vr pv fv m ps l ho hc) := hsvb
  have HSkb : Hid (Sk bs bl w Wb) := hskb
  clear hst2 HR HC hsk2 hsv2 hso2 hc0 hc1 hb2 hbx hskb hsvb hsob hcb1 htw
  go_loopw [8, 29] (fun u i wr => ∃ k : Nat, k ≤ nn ∧ i = .int .i64 k ∧ (∃ po pk pc, u = .slice po pk pc ∧ pk ≤ k * 64 ∧ Hid ((bt k).length = pk ∧ SpO wr Wb.heap.size (.slice po pk pc) (bt k))) ∧ Hid (Sk bs bl Wb wr ∧ SvOk w0 wr B bs bl (n + 1 + k * 65) va vr pv fv m ps l ho hc)) (fun _ i _ => nn - (intOf i).toNat)
  case atStart => exact ⟨0, Nat.zero_le _, rfl, ⟨none, 0, 0, rfl, Nat.zero_le _, by rw [HB0.out]; rfl, by rw [HB0.out]; exact SpO.nil _ _⟩, Sk.refl _ _ _, HSvb.out⟩
  case round =>
    obtain ⟨k, hkn, rfl, ⟨po, pk, pc, rfl, hpk, HSp⟩, HSS⟩ := hrel
    by_cases hlt : k < nn
    · obtain ⟨hskr, hsvr⟩ := HSS.out
      obtain ⟨nb, noff, rfl, hcell⟩ := HInt.out wr lo no so lc nc sc (HSob.out wr hskr) k hlt
      have hin := HNx.out k hlt
      have hst := HSt.out wr (n + 1 + k * 65) _ (by omega) hin hsvr
      have hki : (k : Int) < (nn : Int) := by omega
      have HBk := (show Hid _ from HBt.out k)
      have HSpk : Hid (∀ w', Sk bs bl wr w' → SpO w' Wb.heap.size (.slice po pk pc) (bt k)) := fun w' h => HSp.out.2.sk h hsvr.two
      have HSl : Hid ((bt k).length = pk) := HSp.out.1
      have HFk : Hid (∀ (w' : World) (n' d : Nat) (lo2 no2 so2 : Option Addr) (lc2 nn2 nc2 sc2 : Nat), n' < 1000000000000 → d < N → SvOk w0 w' B bs bl n' va vr pv fv m ps l ho hc → Sk bs bl Wb w' → StOk w' m ps l ((nextL m code).getD k 0) (.agg #[.slice lo2 pn lc2, .slice no2 nn2 nc2, .slice so2 N sc2]) → Calls Tryz.prog 41 #[.pointer (some ⟨B, 0, none⟩), .agg #[.slice lo pn lc, .slice (some ⟨nb, noff, none⟩) nn nc, .slice so N sc], .int .i64 (c : Int), .agg #[.slice lo2 pn lc2, .slice no2 nn2 nc2, .slice so2 N sc2], .int .i64 (d : Int)] w' fun e w'' => e = .returned (.tuple #[.bool (folR l (letL m ps code) (c : Int) (letL m ps ((nextL m code).getD k 0)) (d : Int)), .int .i64 0]) ∧ Hid (Sk bs bl w' w'' ∧ SvOk w0 w'' B bs bl (n' + 1) va vr pv fv m ps l ho hc)) := fun w' n' d lo2 no2 so2 lc2 nn2 nc2 sc2 h1 h2 h3 h4 h5 => HFo.out w' n' d _ lo _ so lo2 no2 so2 lc nn nc sc lc2 nn2 nc2 sc2 h1 h2 hin h3 (HSob.out w' h4) h5
      have HF0 : Hid (foTo l (letL m ps code) (c : Int) (letL m ps ((nextL m code).getD k 0)) ((nextL m code).getD k 0) 0 = []) := rfl
      have HFS : Hid (∀ d : Nat, foTo l (letL m ps code) (c : Int) (letL m ps ((nextL m code).getD k 0)) ((nextL m code).getD k 0) (d + 1) = if folR l (letL m ps code) (c : Int) (letL m ps ((nextL m code).getD k 0)) (d : Int) = true then foTo l (letL m ps code) (c : Int) (letL m ps ((nextL m code).getD k 0)) ((nextL m code).getD k 0) d ++ [((nextL m code).getD k 0, (d : Int))] else foTo l (letL m ps code) (c : Int) (letL m ps ((nextL m code).getD k 0)) ((nextL m code).getD k 0) d) := fun _ => rfl
      have HFl : Hid (∀ d, (foTo l (letL m ps code) (c : Int) (letL m ps ((nextL m code).getD k 0)) ((nextL m code).getD k 0) d).length ≤ d) := foTo_len _ _ _ _ _
      have HStk : Hid (∀ (w' w'' : World) (v : Value), StOk w' m ps l ((nextL m code).getD k 0) v → TwoMaps w' bs bl → Sk bs bl w' w'' → StOk w'' m ps l ((nextL m code).getD k 0) v) := fun w' w'' v h1 h2 h3 => h1.sk h3 h2
      have HStg : Hid (∀ (w' w'' : World) (v : Value) (own : Option Nat), StOk w' m ps l ((nextL m code).getD k 0) v → w'.grownBy w'' own → (∀ g, own = some g → ∃ cs fr, w'.heap[g]? = some (.cells cs 31 fr)) → StOk w'' m ps l ((nextL m code).getD k 0) v) := fun w' w'' v own h1 h2 h3 => h1.grown h2 h3
      have HStb : Hid (∀ (w' : World) (v : Value) (o : Obj), StOk w' m ps l ((nextL m code).getD k 0) v → StOk (w'.alloc o) m ps l ((nextL m code).getD k 0) v) := fun w' v o h1 => h1.below ((Below.refl _ _).alloc (Nat.le_refl _) o)
      generalize foTo l (letL m ps code) (c : Int) (letL m ps ((nextL m code).getD k 0)) ((nextL m code).getD k 0) = ft at *
      generalize hfr : (fun d : Nat => folR l (letL m ps code) (c : Int) (letL m ps ((nextL m code).getD k 0)) (d : Int)) = fr at *
      have HFr : Hid (∀ d : Nat, folR l (letL m ps code) (c : Int) (letL m ps ((nextL m code).getD k 0)) (d : Int) = fr d) := fun d => by rw [← hfr]
      generalize hstk : (fun (w' : World) (v : Value) => StOk w' m ps l ((nextL m code).getD k 0) v) = SK at *
      have HSK : Hid (∀ (w' : World) (v : Value), StOk w' m ps l ((nextL m code).getD k 0) v ↔ SK w' v) := fun w' v => by rw [← hstk]
      clear hfr hstk
      have hst' : Calls Tryz.prog 40 #[.pointer (some ⟨B, 0, none⟩), .int .i64 ((nextL m code).getD k 0)] wr fun e w'' => ∃ lo lc no nn2 nc so sc, e = .returned (.tuple #[.agg #[.slice lo pn lc, .slice no nn2 nc, .slice so N sc], .int .i64 0]) ∧ Hid (Sk bs bl wr w'' ∧ SvOk w0 w'' B bs bl (n + 1 + k * 65 + 1) va vr pv fv m ps l ho hc ∧ SK w'' (.agg #[.slice lo pn lc, .slice no nn2 nc, .slice so N sc])) := hst.mono fun e w'' ⟨a1, a2, a3, a4, a5, a6, a7, h1, h2⟩ => ⟨a1, a2, a3, a4, a5, a6, a7, h1, h2.out.1, h2.out.2.1, (HSK.out _ _).1 h2.out.2.2⟩
      clear hst HInt HSt HNx HBt HB0
      generalize (nextL m code).getD k 0 = cd at *
      clear hsvr HSp
      go_wp2_with (first | (go_at_call 40; refine hst'.mono ?_; rintro e w3 ⟨lo2, lc2, no2, nn2, nc2, so2, sc2, rfl, HR3⟩; have hcl := HCl.out _ _ (HR3.out.2.1.below ((Below.refl w3.heap.size w3).alloc (Nat.le_refl _) (.cells #[.slice lo2 pn lc2, .slice no2 nn2 nc2, .slice so2 N sc2] 88)))) | (go_at_call 14; refine hcl.mono ?_; rintro e w4 ⟨rfl, hw4⟩))
      have hbA : Below w3.heap.size w3 (w3.alloc (.cells #[.slice lo2 pn lc2, .slice no2 nn2 nc2, .slice so2 N sc2] 88)) := (Below.refl _ _).alloc (Nat.le_refl _) _
      have HIn : Hid (SpO (w3.alloc (.cells #[.slice lo2 pn lc2, .slice no2 nn2 nc2, .slice so2 N sc2] 88)) Wb.heap.size (.slice po pk pc) (bt k) ∧ Sk bs bl Wb (w3.alloc (.cells #[.slice lo2 pn lc2, .slice no2 nn2 nc2, .slice so2 N sc2] 88)) ∧ SvOk w0 (w3.alloc (.cells #[.slice lo2 pn lc2, .slice no2 nn2 nc2, .slice so2 N sc2] 88)) B bs bl (n + 1 + k * 65 + 1) va vr pv fv m ps l ho hc ∧ SK (w3.alloc (.cells #[.slice lo2 pn lc2, .slice no2 nn2 nc2, .slice so2 N sc2] 88)) (.agg #[.slice lo2 pn lc2, .slice no2 nn2 nc2, .slice so2 N sc2]) ∧ Bx3 (w3.alloc (.cells #[.slice lo2 pn lc2, .slice no2 nn2 nc2, .slice so2 N sc2] 88)) w3.heap.size (.slice lo2 pn lc2) (.slice no2 nn2 nc2) (.slice so2 N sc2)) :=
        ⟨(HSpk.out w3 HR3.out.1).later hbA (Nat.le_refl _), (hskr.trans HR3.out.1).trans (Sk.of hbA), HR3.out.2.1.below hbA, (HSK.out _ _).1 (HStb.out _ _ _ ((HSK.out _ _).2 HR3.out.2.2)), Bx3.new _ _ _ _⟩
      clear HR3 HSpk hst' hcl hbA HStb
      generalize w3.alloc (.cells #[.slice lo2 pn lc2, .slice no2 nn2 nc2, .slice so2 N sc2] 88) = Wc at *
      have HSKk : Hid (∀ (w' w'' : World) (v : Value), SK w' v → TwoMaps w' bs bl → Sk bs bl w' w'' → SK w'' v) := fun w' w'' v h1 h2 h3 => (HSK.out _ _).1 (HStk.out w' w'' v ((HSK.out _ _).2 h1) h2 h3)
      have HSKg : Hid (∀ (w' w'' : World) (v : Value) (own : Option Nat), SK w' v → w'.grownBy w'' own → (∀ g, own = some g → ∃ cs fr, w'.heap[g]? = some (.cells cs 31 fr)) → SK w'' v) := fun w' w'' v own h1 h2 h3 => (HSK.out _ _).1 (HStg.out w' w'' v own ((HSK.out _ _).2 h1) h2 h3)
      have HSKa : Hid (∀ (w' : World) (v : Value) (o : Obj), SK w' v → SK (w'.alloc o) v) := fun w' v o h1 => HSKg.out w' (w'.alloc o) v none h1 (World.grownBy_alloc w' o none) (fun g e => by simp at e)
      have HFk2 : Hid (∀ (w' : World) (n' d : Nat), n' < 1000000000000 → d < N → SvOk w0 w' B bs bl n' va vr pv fv m ps l ho hc → Sk bs bl Wb w' → SK w' (.agg #[.slice lo2 pn lc2, .slice no2 nn2 nc2, .slice so2 N sc2]) → Calls Tryz.prog 41 #[.pointer (some ⟨B, 0, none⟩), .agg #[.slice lo pn lc, .slice (some ⟨nb, noff, none⟩) nn nc, .slice so N sc], .int .i64 (c : Int), .agg #[.slice lo2 pn lc2, .slice no2 nn2 nc2, .slice so2 N sc2], .int .i64 (d : Int)] w' fun e w'' => e = .returned (.tuple #[.bool (fr d), .int .i64 0]) ∧ Hid (Sk bs bl w' w'' ∧ SvOk w0 w'' B bs bl (n' + 1) va vr pv fv m ps l ho hc)) := fun w' n' d h1 h2 h3 h4 h5 => by
        have := HFk.out w' n' d lo2 no2 so2 lc2 nn2 nc2 sc2 h1 h2 h3 h4 ((HSK.out _ _).2 h5)
        rw [HFr.out] at this
        exact this
      have HFS2 : Hid (∀ d : Nat, ft (d + 1) = if fr d = true then ft d ++ [(cd, (d : Int))] else ft d) := fun d => by
        have := HFS.out d
        rw [HFr.out] at this
        exact this
      clear HFk HFS HFr HSK HStk HStg HFo
      go_loopw [8, 44] (fun u i wr2 => ∃ d : Nat, d ≤ N ∧ i = .int .i64 d ∧ (∃ po pk2 pc, u = .slice po pk2 pc ∧ pk2 ≤ pk + d ∧ Hid ((bt k ++ ft d).length = pk2 ∧ SpO wr2 Wb.heap.size (.slice po pk2 pc) (bt k ++ ft d))) ∧ Hid (Sk bs bl Wb wr2 ∧ SvOk w0 wr2 B bs bl (n + 1 + k * 65 + 1 + d) va vr pv fv m ps l ho hc ∧ SK wr2 (.agg #[.slice lo2 pn lc2, .slice no2 nn2 nc2, .slice so2 N sc2]) ∧ Bx3 wr2 w3.heap.size (.slice lo2 pn lc2) (.slice no2 nn2 nc2) (.slice so2 N sc2))) (fun _ i _ => N - (intOf i).toNat)
      case atStart => exact ⟨0, Nat.zero_le _, rfl, ⟨po, pk, pc, rfl, Nat.le_refl _, by rw [HF0.out, List.append_nil]; exact HSl.out, by rw [HF0.out, List.append_nil]; exact HIn.out.1⟩, HIn.out.2⟩
      case round =>
        obtain ⟨d, hdN, rfl, ⟨po2, pk2, pc2, rfl, hpk2, HSp2⟩, HS2⟩ := hrel
        by_cases hd : d < N
        · obtain ⟨hsk2, hsv2, hSK2, hbx2⟩ := HS2.out
          have hfo := HFk2.out _ (n + 1 + k * 65 + 1 + d) d (by omega) hd hsv2 hsk2 hSK2
          obtain ⟨⟨x0, x1, x2⟩, x3⟩ := HBxb.out _ hsk2
          obtain ⟨⟨z0, z1, z2⟩, _⟩ := id hbx2
          have htw2 := hsv2.two
          have HE := (show Hid _ from HFS2.out d)
          have HNx2 : Hid (∀ w', Sk bs bl wr w' → SpO w' Wb.heap.size (.slice po2 pk2 pc2) (bt k ++ ft d) ∧ Sk bs bl Wb w' ∧ SK w' (.agg #[.slice lo2 pn lc2, .slice no2 nn2 nc2, .slice so2 N sc2]) ∧ Bx3 w' w3.heap.size (.slice lo2 pn lc2) (.slice no2 nn2 nc2) (.slice so2 N sc2)) := fun w' h => ⟨HSp2.out.2.sk h htw2, hsk2.trans h, HSKk.out _ _ _ hSK2 htw2 h, hbx2.sk h htw2⟩
          have HSl2 : Hid ((bt k ++ ft d).length = pk2) := HSp2.out.1
          clear hskr
          cases hfd : fr d with
          | false =>
            rw [hfd] at hfo HE
            have HE2 : Hid (ft (d + 1) = ft d) := by have := HE.out; rw [if_neg (by simp)] at this; exact this
            clear HE hsv2 hSK2 hbx2 HSp2 HS2 hfd
            go_wp2_with (first | (go_at_call 41; refine hfo.mono ?_; rintro e w5 ⟨rfl, HR5⟩))
            obtain ⟨q1, q2, q3, q4⟩ := HNx2.out _ HR5.out.1
            have HQ := (show Hid (SpO w5 Wb.heap.size (.slice po2 pk2 pc2) (bt k ++ ft d) ∧ Sk bs bl Wb w5 ∧ SvOk w0 w5 B bs bl (n + 1 + k * 65 + 1 + d + 1) va vr pv fv m ps l ho hc ∧ SK w5 (.agg #[.slice lo2 pn lc2, .slice no2 nn2 nc2, .slice so2 N sc2]) ∧ Bx3 w5 w3.heap.size (.slice lo2 pn lc2) (.slice no2 nn2 nc2) (.slice so2 N sc2)) from ⟨q1, q2, HR5.out.2, q3, q4⟩)
            clear q1 q2 q3 q4 HR5
            go_roundw
            case rel => exact ⟨d + 1, by omega, by go_num, ⟨po2, pk2, pc2, rfl, by omega, by rw [HE2.out]; exact HSl2.out, by rw [HE2.out]; exact HQ.out.1⟩, HQ.out.2⟩
            case measure => simp [intOf]; omega
          | true =>
            rw [hfd] at hfo HE
            have HE2 : Hid (ft (d + 1) = ft d ++ [(cd, (d : Int))]) := by have := HE.out; rw [if_pos rfl] at this; exact this
            clear HE hsv2 hSK2 hbx2 HSp2 HS2 hfd
            go_wp2_with (first | (go_at_call 41; refine hfo.mono ?_; rintro e w5 ⟨rfl, HR5⟩; obtain ⟨q1, q2, q3, q4⟩ := HNx2.out _ HR5.out.1; have HQ := (show Hid (SpO w5 Wb.heap.size (.slice po2 pk2 pc2) (bt k ++ ft d) ∧ Sk bs bl Wb w5 ∧ SvOk w0 w5 B bs bl (n + 1 + k * 65 + 1 + d + 1) va vr pv fv m ps l ho hc ∧ SK w5 (.agg #[.slice lo2 pn lc2, .slice no2 nn2 nc2, .slice so2 N sc2]) ∧ Bx3 w5 w3.heap.size (.slice lo2 pn lc2) (.slice no2 nn2 nc2) (.slice so2 N sc2)) from ⟨q1, q2, HR5.out.2, q3, q4⟩); clear q1 q2 q3 q4 HR5; have hsp5 := HQ.out.1; have hsz5 := HQ.out.2.1.size) | (at_builtin; refine push_sp cd (d : Int) rfl _ _ rfl Wb.heap.size pk2 pc2 po2 (bt k ++ ft d) HSl2.out rfl hsp5 rfl (by omega) hsz5 ?_; intro vo6 cap6 w6 ho6 hb6 hg6))
            have hown := hsp5.own (.cells #[.int .i64 cd, .int .i64 (d : Int)] 31)
            have HQ6 : Hid (SpO w6 Wb.heap.size (.slice vo6 (pk2 + 1) cap6) (bt k ++ ft d ++ [(cd, (d : Int))]) ∧ Sk bs bl Wb w6 ∧ SvOk w0 w6 B bs bl (n + 1 + k * 65 + 1 + d + 1) va vr pv fv m ps l ho hc ∧ SK w6 (.agg #[.slice lo2 pn lc2, .slice no2 nn2 nc2, .slice so2 N sc2]) ∧ Bx3 w6 w3.heap.size (.slice lo2 pn lc2) (.slice no2 nn2 nc2) (.slice so2 N sc2)) := by
              have ha : Below w5.heap.size w5 (w5.alloc (.cells #[.int .i64 cd, .int .i64 (d : Int)] 31)) := (Below.refl _ _).alloc (Nat.le_refl _) _
              refine ⟨ho6, HQ.out.2.1.after hb6, (HQ.out.2.2.1.below ha).spots hg6 (fun g e => ?_), HSKg.out _ _ _ _ (HSKa.out _ _ _ HQ.out.2.2.2.1) hg6 (fun g e => (hown g e).2), (HQ.out.2.2.2.2.below ha).grown hg6 (fun g e => (hown g e).2)⟩
              obtain ⟨h1, h2⟩ := hown g e
              have := HSkb.out.size
              exact ⟨by omega, by omega, h2⟩
            clear hown ho6 hb6 hg6 hsp5 HQ
            go_wp2_with fail
            go_roundw
            case rel => exact ⟨d + 1, by omega, by go_num, ⟨vo6, pk2 + 1, cap6, rfl, by omega, by rw [HE2.out, ← List.append_assoc, List.length_append, HSl2.out]; rfl, by rw [HE2.out, ← List.append_assoc]; exact HQ6.out.1⟩, HQ6.out.2⟩
            case measure => simp [intOf]; omega
        · obtain rfl : d = N := by omega
          have HSl2 : Hid ((bt (k + 1)).length = pk2 ∧ SpO wr Wb.heap.size (.slice po2 pk2 pc2) (bt (k + 1))) := by rw [HBk.out]; exact HSp2.out
          have HS3 : Hid (Sk bs bl Wb wr ∧ SvOk w0 wr B bs bl (n + 1 + (k + 1) * 65) va vr pv fv m ps l ho hc) := ⟨HS2.out.1, HS2.out.2.1.mono (by omega)⟩
          clear HSp2 HS2
          go_wp2_with fail
          go_roundw
          case rel => exact ⟨k + 1, by omega, by go_num, ⟨po2, pk2, pc2, rfl, by omega, HSl2.out.1, HSl2.out.2⟩, HS3⟩
          case measure => simp [intOf]; omega
    · obtain rfl : k = nn := by omega
      have HSl : Hid ((bt k).length = pk) := HSp.out.1
      have HSpp : Hid (SpO wr Wb.heap.size (.slice po pk pc) (bt k)) := HSp.out.2
      have hwb : w.heap.size ≤ Wb.heap.size := HSkb.out.size
      clear HSp
      go_wp2_with fail
      go_ret2
      exact ⟨HSkb.out.trans HSS.out.1, HSS.out.2.mono (by omega), .inl ⟨HW.out, po, pc, by rw [HSl.out]; rfl, by rw [HSl.out]; exact owns_mono HSpp.out hwb⟩⟩
end Go.Proofs.YtdlpmomohbdpgaaGreatDoor

/-
  The contract of product.Behind.
-/
namespace Go.Proofs.YtdlpmomohbdpgaaGreatDoor
open Go.ChangeShapes Go.WideShapes Go.ChangeAt Go.RowKit Go.Deep Go.Maps
open Terms Tm

theorem belowD (w : World) (q : Nat) : Below w.heap.size w (w.drewN q) := ⟨rfl, rfl, rfl, Nat.le_refl _, fun _ _ => rfl⟩
/-- a survey that was just made. -/
theorem SvOk.made {w0 w w' : World} {n : Nat} {va vr pv fv : Value} {m : Mo} {ps : List (List (Int × Int))} {l : List (Int × Int)} {ho : Option Addr} {hc : Nat} (hb : Below w0.heap.size w0 w) (hb2 : Below w.heap.size w w') (hn : w.heap.size ≤ n) (hs : SurvAt w' (n + 2) va vr pv fv (.slice ho (aheadL l).length hc) n (n + 1))
    (ho' : w'.ownsRow w.heap.size 3 1 (.slice ho (aheadL l).length hc) (aheadL l).length (ivals (aheadL l))) (h1 : w'.heap[n]? = some (.map #[] 0)) (h2 : w'.heap[n + 1]? = some (.map #[] 0)) : SvOk w0 w' (n + 2) n (n + 1) 0 va vr pv fv m ps l ho hc := by
  have := hb.size
  exact ⟨hs, hb.trans (hb2.mono hb.size), by omega, by omega, by omega, intsV_of_owns ho', RowTy.owns ho', ⟨_, MapIs.new _ h1, fun kl v h => by simp at h⟩, ⟨_, MapIs.new _ h2, fun kl v h => by simp at h⟩⟩

/-- what Behind answers. -/
noncomputable def bhC (m : Mo) (ps : List (List (Int × Int))) (l : List (Int × Int)) (code c : Int) : Int := by classical exact if tkcode m ps l = 0 then (if 0 ≤ c ∧ c < ((2 ^ (aheadL l).length : Nat) : Int) then wcode m code else 9) else tkcode m ps l
noncomputable def bhL (m : Mo) (ps : List (List (Int × Int))) (l : List (Int × Int)) (code c : Int) : List (Int × Int) := by classical exact if bhC m ps l code c = 0 then behL m ps l code c else []
theorem bhC_bad {m : Mo} {ps : List (List (Int × Int))} {l : List (Int × Int)} {code c : Int} (h : tkcode m ps l ≠ 0) : bhC m ps l code c = tkcode m ps l := by unfold bhC; rw [if_neg h]
theorem bhC_no {m : Mo} {ps : List (List (Int × Int))} {l : List (Int × Int)} {code c : Int} (h : tkcode m ps l = 0) (h2 : ¬ (0 ≤ c ∧ c < ((2 ^ (aheadL l).length : Nat) : Int))) : bhC m ps l code c = 9 := by unfold bhC; rw [if_pos h, if_neg h2]
theorem bhC_ok {m : Mo} {ps : List (List (Int × Int))} {l : List (Int × Int)} {code c : Int} (h : tkcode m ps l = 0) (h2 : 0 ≤ c ∧ c < ((2 ^ (aheadL l).length : Nat) : Int)) : bhC m ps l code c = wcode m code := by unfold bhC; rw [if_pos h, if_pos h2]
theorem bhL_bad {m : Mo} {ps : List (List (Int × Int))} {l : List (Int × Int)} {code c : Int} (h : bhC m ps l code c ≠ 0) : bhL m ps l code c = [] := by unfold bhL; rw [if_neg h]
theorem bhL_ok {m : Mo} {ps : List (List (Int × Int))} {l : List (Int × Int)} {code c : Int} (h : bhC m ps l code c = 0) : bhL m ps l code c = behL m ps l code c := by unfold bhL; rw [if_pos h]
def BdPost (w : World) (m : Mo) (ps : List (List (Int × Int))) (l : List (Int × Int)) (code c : Int) (e : Ending) (w' : World) : Prop := ∃ so sc, e = .returned (.tuple #[.slice so (bhL m ps l code c).length sc, .int .i64 (bhC m ps l code c)]) ∧ Below w.heap.size w w' ∧ Hid (SpO w' w.heap.size (.slice so (bhL m ps l code c).length sc) (bhL m ps l code c))

set_option maxHeartbeats 1600000 in
set_option maxRecDepth 20000 in
theorem pbehind_bad (va vr pv fv : Value) (m : Mo) (ps : List (List (Int × Int))) (l : List (Int × Int)) (code c : Int) (w : World) (hB : 0 < w.heap.size) (hT : TabAt w) (hV : TaskV w va vr pv fv m ps l) (hk : tkcode m ps l ≠ 0) :
    Calls Tryz.prog 5 #[.agg #[va, vr, pv, fv], .agg #[.int .i64 code, .int .i64 c]] w (BdPost w m ps l code c) := by
  unfold BdPost
  rw [bhL_bad (by rw [bhC_bad hk]; exact hk), bhC_bad hk]
  obtain ⟨ao, ac, rfl⟩ := hV.mo.1.shape
  obtain ⟨ro, rc, rfl⟩ := hV.mo.2.shape
  obtain ⟨po, pc, rfl⟩ := hV.ps.shape
  obtain ⟨fo, fc, rfl, _⟩ := id hV.fo
  have hA : ∀ o o', Below w.heap.size w ((w.alloc o).alloc o') := fun o o' => ((Below.refl _ _).alloc (Nat.le_refl _) o).alloc (by simp) o'
  have hsv := surveyOf_bad _ _ _ _ m ps l _ (Nat.lt_of_lt_of_le hB (hA (.cells #[.slice ao m.vars.length ac, .slice ro m.rules.length rc, .slice po ps.length pc, .slice fo l.length fc] 29) (.cells #[.int .i64 code, .int .i64 c] 31)).size) (hT.below (hA _ _) hB) (hV.below (hA _ _)) hk
  generalize tkcode m ps l = tc at *
  generalize m.vars.length = vn at *
  generalize m.rules.length = rn at *
  generalize ps.length = pn at *
  generalize l.length = fn at *
  clear hV hT
  go_enter Tryz.func5, Tryz.ntmps5
  go_wp2_with (first | (go_at_call 13; refine hsv.mono ?_; rintro e w1 ⟨rfl, hb1⟩; have hbw := (hA _ _).trans (hb1.mono (hA _ _).size)))
  go_ret2
  exact ⟨none, 0, rfl, hbw, SpO.nil _ _⟩

set_option maxHeartbeats 1600000 in
set_option maxRecDepth 20000 in
theorem pbehind_no (va vr pv fv : Value) (m : Mo) (ps : List (List (Int × Int))) (l : List (Int × Int)) (code c : Int) (w : World) (hB : 0 < w.heap.size) (hT : TabAt w) (hV : TaskV w va vr pv fv m ps l) (hk : tkcode m ps l = 0) (hno : ¬ (0 ≤ c ∧ c < ((2 ^ (aheadL l).length : Nat) : Int))) :
    Calls Tryz.prog 5 #[.agg #[va, vr, pv, fv], .agg #[.int .i64 code, .int .i64 c]] w (BdPost w m ps l code c) := by
  unfold BdPost
  rw [bhL_bad (by rw [bhC_no hk hno]; decide), bhC_no hk hno]
  have h6 := (lcode_zero (tk_zero hk).2).2.2.2.2
  obtain ⟨ao, ac, rfl⟩ := hV.mo.1.shape
  obtain ⟨ro, rc, rfl⟩ := hV.mo.2.shape
  obtain ⟨po, pc, rfl⟩ := hV.ps.shape
  obtain ⟨fo, fc, rfl, _⟩ := id hV.fo
  have hA : ∀ o o', Below w.heap.size w ((w.alloc o).alloc o') := fun o o' => ((Below.refl _ _).alloc (Nat.le_refl _) o).alloc (by simp) o'
  have hsv := surveyOf_ok _ _ _ _ m ps l _ (Nat.lt_of_lt_of_le hB (hA (.cells #[.slice ao m.vars.length ac, .slice ro m.rules.length rc, .slice po ps.length pc, .slice fo l.length fc] 29) (.cells #[.int .i64 code, .int .i64 c] 31)).size) (hT.below (hA _ _) hB) (hV.below (hA _ _)) hk
  have HCl : Hid (∀ (w' : World) (B bs bl : Nat) (ho : Option Addr) (hc : Nat), SurvAt w' B (.slice ao m.vars.length ac) (.slice ro m.rules.length rc) (.slice po ps.length pc) (.slice fo l.length fc) (.slice ho (aheadL l).length hc) bs bl → ∀ q, Calls Tryz.prog 14 #[.pointer (some ⟨B, 0, none⟩)] (w'.drewN q) fun e w'' => e = .returned (.int .i64 ((2 ^ (aheadL l).length : Nat) : Int)) ∧ w'' = w'.drewN q) := fun w' B bs bl ho hc h q => claims_any B _ _ _ _ ho _ hc bs bl (w'.drewN q) h6 (h.later (belowD _ _))
  have HSp : Hid (∀ (o o' : Obj) (w' : World), o' = .cells #[.int .i64 code, .int .i64 c] 31 → Below ((w.alloc o).alloc o').heap.size ((w.alloc o).alloc o') w' → w'.cell? ⟨w.heap.size + 1, 0, none⟩ = some (.int .i64 code) ∧ w'.cell? ⟨w.heap.size + 1, 1, none⟩ = some (.int .i64 c)) := fun o o' w' e h => by
    subst e
    exact ⟨(h.cell (p := ⟨w.heap.size + 1, 0, none⟩) (by simp)).trans (by simp [go_sem]), (h.cell (p := ⟨w.heap.size + 1, 1, none⟩) (by simp)).trans (by simp [go_sem])⟩
  unfold SurvPost at hsv
  generalize 2 ^ (aheadL l).length = N at *
  generalize (aheadL l).length = an at *
  generalize m.vars.length = vn at *
  generalize m.rules.length = rn at *
  generalize ps.length = pn at *
  generalize l.length = fn at *
  clear hV hT hk
  go_enter Tryz.func5, Tryz.ntmps5
  go_wp2_with (first | (go_at_call 13; refine hsv.mono ?_; rintro e w1 ⟨n, ho, hc, rfl, hb1, _, _, HSv, _, _⟩; have hbw := (hA _ _).trans (hb1.mono (hA _ _).size); have hcl := HCl.out w1 _ _ _ _ _ HSv.out; obtain ⟨s0, s1⟩ := HSp.out _ _ w1 rfl hb1))
  by_cases h0 : c < 0
  · have h0d : decide (c < 0) = true := decide_eq_true h0
    go_quiet (first | (go_at_call 14; exact Calls.quiet_of_same (hcl _)))
    go_wp2_with fail
    go_ret2
    exact ⟨none, 0, rfl, ⟨hbw.os, hbw.tape, hbw.output, hbw.size, hbw.block⟩, SpO.nil _ _⟩
  · have h0d : decide (c < 0) = false := decide_eq_false h0
    have h1 : (N : Int) ≤ c := by omega
    have h1d : decide ((N : Int) ≤ c) = true := decide_eq_true h1
    go_quiet (first | (go_at_call 14; exact Calls.quiet_of_same (hcl _)))
    go_wp2_with fail
    go_ret2
    exact ⟨none, 0, rfl, ⟨hbw.os, hbw.tape, hbw.output, hbw.size, hbw.block⟩, SpO.nil _ _⟩

set_option maxHeartbeats 1600000 in
set_option maxRecDepth 20000 in
theorem pbehind_ok (va vr pv fv : Value) (m : Mo) (ps : List (List (Int × Int))) (l : List (Int × Int)) (code : Int) (c : Nat) (hI : -9223372036854775808 ≤ code ∧ code ≤ 9223372036854775807) (w : World) (hB : 0 < w.heap.size) (hT : TabAt w) (hV : TaskV w va vr pv fv m ps l) (hk : tkcode m ps l = 0) (hcN : c < 2 ^ (aheadL l).length) :
    Calls Tryz.prog 5 #[.agg #[va, vr, pv, fv], .agg #[.int .i64 code, .int .i64 (c : Int)]] w (BdPost w m ps l code (c : Int)) := by
  unfold BdPost
  have hbc := bhC_ok (code := code) hk (c := (c : Int)) ⟨by omega, by omega⟩
  have h6 := (lcode_zero (tk_zero hk).2).2.2.2.2
  have hm0 := (pcode_m (tk_zero hk).1).1
  obtain ⟨ao, ac, rfl⟩ := hV.mo.1.shape
  obtain ⟨ro, rc, rfl⟩ := hV.mo.2.shape
  obtain ⟨po, pc, rfl⟩ := hV.ps.shape
  obtain ⟨fo, fc, rfl, _⟩ := id hV.fo
  have hA : ∀ o o', Below w.heap.size w ((w.alloc o).alloc o') := fun o o' => ((Below.refl _ _).alloc (Nat.le_refl _) o).alloc (by simp) o'
  have hsv := surveyOf_ok _ _ _ _ m ps l _ (Nat.lt_of_lt_of_le hB (hA (.cells #[.slice ao m.vars.length ac, .slice ro m.rules.length rc, .slice po ps.length pc, .slice fo l.length fc] 29) (.cells #[.int .i64 code, .int .i64 (c : Int)] 31)).size) (hT.below (hA _ _) hB) (hV.below (hA _ _)) hk
  have HCl : Hid (∀ (w' : World) (B bs bl : Nat) (ho : Option Addr) (hc : Nat), SurvAt w' B (.slice ao m.vars.length ac) (.slice ro m.rules.length rc) (.slice po ps.length pc) (.slice fo l.length fc) (.slice ho (aheadL l).length hc) bs bl → ∀ q, Calls Tryz.prog 14 #[.pointer (some ⟨B, 0, none⟩)] (w'.drewN q) fun e w'' => e = .returned (.int .i64 ((2 ^ (aheadL l).length : Nat) : Int)) ∧ w'' = w'.drewN q) := fun w' B bs bl ho hc h q => claims_any B _ _ _ _ ho _ hc bs bl (w'.drewN q) h6 (h.later (belowD _ _))
  have HSp : Hid (∀ (o o' : Obj) (w' : World), o' = .cells #[.int .i64 code, .int .i64 (c : Int)] 31 → Below ((w.alloc o).alloc o').heap.size ((w.alloc o).alloc o') w' → w'.cell? ⟨w.heap.size + 1, 0, none⟩ = some (.int .i64 code) ∧ w'.cell? ⟨w.heap.size + 1, 1, none⟩ = some (.int .i64 (c : Int))) := fun o o' w' e h => by
    subst e
    exact ⟨(h.cell (p := ⟨w.heap.size + 1, 0, none⟩) (by simp)).trans (by simp [go_sem]), (h.cell (p := ⟨w.heap.size + 1, 1, none⟩) (by simp)).trans (by simp [go_sem])⟩
  have HBh : Hid (∀ (w' : World) (n : Nat) (ho : Option Addr) (hc : Nat), Below w.heap.size w w' → SvOk w w' (n + 2) n (n + 1) 0 (.slice ao m.vars.length ac) (.slice ro m.rules.length rc) (.slice po ps.length pc) (.slice fo l.length fc) m ps l ho hc → Calls Tryz.prog 15 #[.pointer (some ⟨n + 2, 0, none⟩), .agg #[.int .i64 code, .int .i64 (c : Int)]] w' fun e w'' => ∃ so sc, e = .returned (.tuple #[.slice so (bhL m ps l code (c : Int)).length sc, .int .i64 (bhC m ps l code (c : Int))]) ∧ Below w.heap.size w w'' ∧ Hid (SpO w'' w.heap.size (.slice so (bhL m ps l code (c : Int)).length sc) (bhL m ps l code (c : Int)))) := fun w' n ho hc hb hS => by
    by_cases hcr : 0 ≤ code ∧ code < prodTo m.vars m.vars.length
    · refine (behind_in w w' (n + 2) n (n + 1) 0 _ _ _ _ m ps l ho hc code c hI hB hT hV hk hS (by omega) hcr hcN).mono fun e w'' ⟨h1, h2, h3⟩ => ?_
      have hw0 := wcode_yes hm0 hcr
      rcases h3 with ⟨_, so, sc, h4, h5⟩ | ⟨h4, _⟩
      · rw [bhL_ok (by rw [hbc, hw0]), hbc, hw0]
        exact ⟨so, sc, h4, h2.out.bel, owns_mono h5.out hb.size⟩
      · exact absurd hw0 h4
    · refine (behind_out w w' (n + 2) n (n + 1) 0 _ _ _ _ m ps l ho hc code (c : Int) hI hB hT hV hk hS (by omega) (by rw [wcode_no hm0 hcr]; decide)).mono fun e w'' ⟨h1, h2, h3⟩ => ?_
      have hw9 := wcode_no hm0 hcr
      rcases h3 with ⟨h4, _⟩ | ⟨_, h4⟩
      · rw [hw9] at h4; exact absurd h4 (by decide)
      · rw [bhL_bad (by rw [hbc, hw9]; decide), hbc]
        exact ⟨none, 0, h4, h2.out.bel, SpO.nil _ _⟩
  have HMd : Hid (∀ (o o' : Obj) (w' : World) (n : Nat) (ho : Option Addr) (hc : Nat), Below ((w.alloc o).alloc o').heap.size ((w.alloc o).alloc o') w' → ((w.alloc o).alloc o').heap.size ≤ n → SurvAt w' (n + 2) (.slice ao m.vars.length ac) (.slice ro m.rules.length rc) (.slice po ps.length pc) (.slice fo l.length fc) (.slice ho (aheadL l).length hc) n (n + 1) → w'.ownsRow ((w.alloc o).alloc o').heap.size 3 1 (.slice ho (aheadL l).length hc) (aheadL l).length (ivals (aheadL l)) → w'.heap[n]? = some (.map #[] 0) ∧ w'.heap[n + 1]? = some (.map #[] 0) → ∀ q, SvOk w (w'.drewN q) (n + 2) n (n + 1) 0 (.slice ao m.vars.length ac) (.slice ro m.rules.length rc) (.slice po ps.length pc) (.slice fo l.length fc) m ps l ho hc) := fun o o' w' n ho hc h1 h2 h3 h4 h5 q => (SvOk.made (hA o o') h1 h2 h3 h4 h5.1 h5.2).below (belowD _ _)
  have hci : (c : Int) < ((2 ^ (aheadL l).length : Nat) : Int) := by omega
  unfold SurvPost at hsv
  generalize (bhL m ps l code (c : Int)) = bhl at *
  generalize bhC m ps l code (c : Int) = bhc at *
  generalize ivals (aheadL l) = iv at *
  generalize 2 ^ (aheadL l).length = N at *
  generalize (aheadL l).length = an at *
  generalize m.vars.length = vn at *
  generalize m.rules.length = rn at *
  generalize ps.length = pn at *
  generalize l.length = fn at *
  generalize bhl.length = bn at *
  clear hV hT hk hbc
  go_enter Tryz.func5, Tryz.ntmps5
  go_wp2_with (first | (go_at_call 13; refine hsv.mono ?_; rintro e w1 ⟨n, ho, hc, rfl, hb1, hn1, _, HSv, HOw, HMp⟩; have hbw := (hA _ _).trans (hb1.mono (hA _ _).size); have hcl := HCl.out w1 _ _ _ _ _ HSv.out; obtain ⟨s0, s1⟩ := HSp.out _ _ w1 rfl hb1; have HSk := (show Hid _ from HMd.out _ _ w1 n ho hc hb1 hn1 HSv.out HOw.out HMp.out)))
  have h0 : ¬ (c : Int) < 0 := by omega
  have h1 : ¬ (N : Int) ≤ (c : Int) := by omega
  have h1n : ¬ N ≤ c := by omega
  have h0d : decide ((c : Int) < 0) = false := decide_eq_false h0
  have h1d : decide ((N : Int) ≤ (c : Int)) = false := decide_eq_false h1
  go_quiet (first | (go_at_call 14; exact Calls.quiet_of_same (hcl _)))
  have hbe := fun q => HBh.out (w1.drewN q) n ho hc ⟨hbw.os, hbw.tape, hbw.output, hbw.size, hbw.block⟩ (HSk.out q)
  clear hcl HSk
  go_wp2_with (first | (go_at_call 15; refine (hbe _).mono ?_; rintro e w2 ⟨so, sc, rfl, hb2, HO⟩))
  go_ret2
  exact ⟨so, sc, rfl, hb2, HO⟩
/-- THE CONTRACT OF product.Behind. -/
theorem pbehind_any (va vr pv fv : Value) (m : Mo) (ps : List (List (Int × Int))) (l : List (Int × Int)) (code c : Int) (hI : -9223372036854775808 ≤ code ∧ code ≤ 9223372036854775807) (w : World) (hB : 0 < w.heap.size) (hT : TabAt w) (hV : TaskV w va vr pv fv m ps l) :
    Calls Tryz.prog 5 #[.agg #[va, vr, pv, fv], .agg #[.int .i64 code, .int .i64 c]] w (BdPost w m ps l code c) := by
  by_cases hk : tkcode m ps l = 0
  · by_cases hc : 0 ≤ c ∧ c < ((2 ^ (aheadL l).length : Nat) : Int)
    · obtain ⟨k, rfl⟩ : ∃ k : Nat, c = (k : Int) := ⟨c.toNat, by omega⟩
      exact pbehind_ok va vr pv fv m ps l code k hI w hB hT hV hk (by omega)
    · exact pbehind_no va vr pv fv m ps l code c w hB hT hV hk hc
  · exact pbehind_bad va vr pv fv m ps l code c w hB hT hV hk
end Go.Proofs.YtdlpmomohbdpgaaGreatDoor

/-
  The contract of the document's own AheadOf.
-/
namespace Go.Proofs.YtdlpmomohbdpgaaGreatDoor
open Go.ChangeShapes Go.WideShapes Go.ChangeAt Go.RowKit Go.Deep
open Terms

theorem refl_post {α : Prop} (h : α) : α := h

set_option maxHeartbeats 800000 in
set_option maxRecDepth 20000 in
/-- THE CONTRACT OF the document's AheadOf. -/
theorem aheadOf_any (v : Value) (l : List (Int × Int)) (props : Int) (w : World) (hV : OpsV w v l) :
    Calls Tryz.prog 30 #[v, .int .i64 props] w fun e w' => ∃ av, e = .returned (.tuple #[av, .int .i64 (lcode props l)]) ∧ Below w.heap.size w w' ∧ w'.ownsRow w.heap.size 3 1 av (ahL props l).length (ivals (ahL props l)) := by
  have hff := fault_any v l props w hV
  by_cases hz : lcode props l = 0
  · obtain ⟨_, _, hz0', _, _⟩ := lcode_zero hz
    obtain ⟨hne, h60⟩ := ends_ne hz0'
    rw [List.length_map] at h60
    obtain ⟨ao, cap, rfl, h0, h⟩ := hV
    obtain ⟨b, off, rfl, hblt, hat⟩ := h (by rintro rfl; exact hne rfl)
    rw [hz] at hff
    have HLd : Hid (ahL props l = aheadTo l l.length) := by show _ = _; unfold ahL aheadL; rw [if_pos hz]
    have HA : Hid (OpsAt w b off l) := hat
    rw [hz]
    obtain ⟨n, hn⟩ : ∃ n, n = l.length := ⟨_, rfl⟩
    have HN : Hid (n = l.length) := hn
    rw [← hn] at h60 HLd hff ⊢
    obtain ⟨i0, hi, hz0, hz1, hz2⟩ := info_parts infoInt
    clear h0 h hat hne hz hn hz0'
    go_enter Tryz.func30, Tryz.ntmps30
    go_wp2_with (go_at_call 43; refine hff.mono ?_; rintro e w1 ⟨rfl, hb1⟩)
    have hs1 := hb1.size
    clear hff
    go_loopw [7, 8] (fun out i wr => ∃ k : Nat, k ≤ n ∧ i = .int .i64 k ∧ Hid (wr.ownsRow w1.heap.size 3 1 out (aheadTo l k).length (ivals (aheadTo l k))) ∧ Below w1.heap.size w1 wr) (fun _ i _ => n - (intOf i).toNat)
    case atStart => exact ⟨0, Nat.zero_le _, rfl, World.ownsRow_nil _ _ _ _, Below.refl _ _⟩
    case round =>
      obtain ⟨k, hk, rfl, HOw, hbel⟩ := hrel
      have hbw := hb1.trans (hbel.mono hb1.size)
      have hlen := aheadTo_length l k
      have hown := HOw.out
      obtain ⟨aao, aac, rfl⟩ := owns_slice hown
      by_cases hlt : k < n
      · obtain ⟨c0, c1⟩ := (HA.out.below hbw hblt) k (by rw [← HN.out]; exact hlt)
        have HY : Hid (lookB (l.getD k (0, 0)).1 = true → aheadTo l (k + 1) = aheadTo l k ++ [(k : Int)]) := aheadTo_yes
        have HNo : Hid (lookB (l.getD k (0, 0)).1 = false → aheadTo l (k + 1) = aheadTo l k) := aheadTo_no
        generalize l.getD k (0, 0) = xy at c0 c1 HY HNo
        obtain ⟨x, y⟩ := xy
        simp only at c0 c1 HY HNo
        have hlk := fun w => rlook_any x w
        obtain ⟨L, hL⟩ : ∃ L, L = (aheadTo l k).length := ⟨_, rfl⟩
        have HL : Hid (L = (aheadTo l k).length) := hL
        rw [← hL] at hlen hown ⊢
        clear hL HA HOw
        cases hb : lookB x with
        | true =>
          have HAh := (show Hid _ from HY.out hb)
          rw [hb] at hlk
          have h63 : L + 1 ≤ maxLen := by unfold maxLen; omega
          have hkb : (L + 1) * 8 ≤ 140737488355328 := by omega
          have hbase : ∀ o, w1.heap.size ≤ (wr.alloc o).heap.size := fun o => by have := hbel.size; simp; omega
          clear HY HNo hb
          go_wp2_with (first | (go_at_call 50; refine (hlk _).mono ?_; rintro e w3 ⟨rfl, rfl⟩) | (at_builtin; refine wpList_append_own _ rfl _ _ 40 rfl w1.heap.size 3 i0 (.int .i64 0) 1 8 Tryz.underlying40 hi hz0 hz1 hz2 rfl (by decide) _ _ _ rfl (hown.alloc _) ⟨_, 0, none⟩ 1 1 _ rfl rfl (cell_one_new _ _ _) (by intro u hu; simp at hu; subst hu; rfl) h63 hkb (hbase _) ?_; intro v5 w5 hown5 hgrow5 _; obtain ⟨g5, cp5, rfl⟩ := owns_more hown5))
          have hb5 : Below w1.heap.size w1 w5 := (hbel.alloc hbel.size _).grown hgrow5 (hbase _) (owns_block hown)
          refine ⟨⟨k + 1, hlt, by first | rfl | simp, ?_, hb5⟩, by simp [intOf]; omega⟩
          show World.ownsRow _ _ _ _ _ _ _
          rw [HAh.out, List.length_append, ← HL.out]
          rw [show ivals (aheadTo l k ++ [(k : Int)]) = ivals (aheadTo l k) ++ [.int .i64 (k : Int)] by simp [ivals]]
          exact hown5
        | false =>
          have HAh := (show Hid _ from HNo.out hb)
          rw [hb] at hlk
          clear HY HNo hb
          have HO2 : Hid (wr.ownsRow w1.heap.size 3 1 (.slice aao L aac) L (ivals (aheadTo l k))) := hown
          go_wp2_with (go_at_call 50; refine (hlk _).mono ?_; rintro e w3 ⟨rfl, rfl⟩)
          refine ⟨⟨k + 1, hlt, by first | rfl | simp, ?_, hbel⟩, by simp [intOf]; omega⟩
          show World.ownsRow _ _ _ _ _ _ _
          rw [HAh.out, ← HL.out]
          exact HO2.out
      · have hkn : k = n := by omega
        subst hkn
        obtain ⟨L, hL⟩ : ∃ L, L = (aheadTo l k).length := ⟨_, rfl⟩
        have HL : Hid (L = (aheadTo l k).length) := hL
        rw [← hL] at hlen hown ⊢
        clear hL HA HOw
        have HO2 : Hid (wr.ownsRow w1.heap.size 3 1 (.slice aao L aac) L (ivals (aheadTo l k))) := hown
        clear hown
        go_wp2_with fail
        go_ret2
        refine ⟨_, rfl, hbw, ?_⟩
        rw [HLd.out, ← HL.out]
        exact owns_mono HO2.out hs1
  · obtain ⟨ao, cap, rfl, _⟩ := hV
    have HLd : Hid (ahL props l = []) := by show _ = _; unfold ahL; rw [if_neg hz]
    generalize lcode props l = x at *
    go_enter Tryz.func30, Tryz.ntmps30
    go_wp2_with (go_at_call 43; refine hff.mono ?_; rintro e w1 ⟨rfl, hb1⟩)
    go_ret2
    exact ⟨_, rfl, hb1, by rw [HLd.out]; exact World.ownsRow_nil _ _ _ _⟩
end Go.Proofs.YtdlpmomohbdpgaaGreatDoor

/-
  The contracts of the document's own behindVar, StateCount.
-/
namespace Go.Proofs.YtdlpmomohbdpgaaGreatDoor
open Go.ChangeShapes Go.WideShapes Go.ChangeAt Go.RowKit Go.Deep
open Terms Tm

set_option maxHeartbeats 1600000 in
theorem behindVar_any (va : Value) (ro : Option Addr) (rn rc : Nat) (l : List Vr) (a : Nat) (w : World) (hok : VarsOk l) (ha : a ≤ l.length) (hV : VarsV w va l) :
    Calls Tryz.prog 45 #[.agg #[va, .slice ro rn rc], .int .i64 ((a : Int) - 1)] w fun e w' => e = .returned (.int .i64 (segP l a)) ∧ Below w.heap.size w w' := by
  obtain ⟨ao, cap, rfl⟩ := hV.shape
  have HV : Hid (VarsV w (.slice ao l.length cap) l) := hV
  have HOK : Hid (VarsOk l) := hok
  have h6 := hok.1
  unfold segP
  obtain ⟨n, hn⟩ : ∃ n, n = l.length := ⟨_, rfl⟩
  have HN : Hid (n = l.length) := hn
  rw [← hn] at h6 ha HV ⊢
  clear hV hn hok
  have hA : Below w.heap.size w (w.alloc (.cells #[.slice ao n cap, .slice ro rn rc] 25)) := (Below.refl _ _).alloc (Nat.le_refl _) _
  go_enter Tryz.func45, Tryz.ntmps45
  go_wp2
  go_loopw [5, 6] (fun st i wr => ∃ c : Nat, a + c ≤ n ∧ i = .int .i64 ((a + c : Nat) : Int) ∧ st = .int .i64 (prodSeg l a c) ∧ ∃ d, wr = (w.alloc (.cells #[.slice ao n cap, .slice ro rn rc] 25)).drewN d) (fun _ i _ => n - (intOf i).toNat)
  case atStart => exact ⟨0, by omega, by first | rfl | (congr 1; omega) | go_num, rfl, 0, rfl⟩
  case round =>
    obtain ⟨c, hc, rfl, rfl, d, rfl⟩ := hrel
    by_cases hlt : a + c < n
    · obtain ⟨b, off, rfl, hblt, hat⟩ := HV.out.at (i := a + c) (by rw [← HN.out]; exact hlt)
      obtain ⟨c0, c1, c2, c3⟩ := hat.below hA hblt
      have hpb1 := prodSeg_pos HOK.out (a := a) (c := c) (by rw [← HN.out]; exact hc)
      have hpb2 := prodSeg_le HOK.out (a := a) (c := c) (by rw [← HN.out]; exact hc)
      have hvb := HOK.out.at (j := a + c) (by rw [← HN.out]; exact hlt)
      have HPr : Hid (prodSeg l a (c + 1) = prodSeg l a c * vspan (l.getD (a + c) vr0)) := rfl
      generalize prodSeg l a c = st at *
      generalize l.getD (a + c) vr0 = x at *
      obtain ⟨s, lo, hi, ini⟩ := x
      simp only [vspan] at c0 c1 c2 c3 HPr hvb
      obtain ⟨hv1, hv2, hv3, hv4, hv5, hv6, hv7⟩ := hvb
      have hm1 : 1 ≤ st * (hi - lo + 1) := by have := Int.mul_le_mul hpb1 hv1 (by omega) (by omega); simpa using this
      have hm2 : st * (hi - lo + 1) ≤ 262144 := by have := Int.mul_le_mul hpb2 hv2 (by omega) (by omega); simpa using this
      obtain ⟨k, hk⟩ : ∃ k, k = a + c := ⟨_, rfl⟩
      have HK : Hid (k = a + c) := hk
      rw [← hk] at hlt c0 c1 c2 c3 ⊢
      clear hat hk
      have hi0 : (0 : Int) ≤ (k : Int) := Int.natCast_nonneg _
      have hi1 : (k : Int) < (n : Int) := by omega
      have hw1 : IntKind.i64.wrap (hi - lo) = hi - lo := wr64 (by omega) (by omega)
      have hw2 : IntKind.i64.wrap (hi - lo + 1) = hi - lo + 1 := wr64 (by omega) (by omega)
      have hw3 : IntKind.i64.wrap (st * (hi - lo + 1)) = st * (hi - lo + 1) := wr64 (by omega) (by omega)
      go_wp2_with fail
      go_quiet (fail)
      go_wp2_with fail
      go_roundw
      case rel => exact ⟨c + 1, by have := HK.out; omega, by have := HK.out; congr 1; omega, by rw [HPr.out], _, rfl⟩
      case measure => simp [intOf]; omega
    · have hce : c = n - a := by omega
      subst hce
      go_wp2_with fail
      go_ret
      exact ⟨rfl, below_drewN hA _⟩
/-- THE CONTRACT OF StateCount. -/
theorem rcount_any (va vr : Value) (m : Mo) (w : World) (hV : ModelV w va vr m) :
    Calls Tryz.prog 20 #[.agg #[va, vr]] w fun e w' => e = .returned (.tuple #[.int .i64 (if mcode m = 0 then prodTo m.vars m.vars.length else 0), .int .i64 (mcode m)]) ∧ Below w.heap.size w w' := by
  have hA : ∀ o, Below w.heap.size w (w.alloc o) := fun o => (Below.refl _ _).alloc (Nat.le_refl _) o
  have hch := fun o => rmodel_any va vr m (w.alloc o) (hV.below (hA o))
  have HV : Hid (ModelV w va vr m) := hV
  obtain ⟨ao, cap, rfl⟩ := hV.1.shape
  obtain ⟨ro, rc, rfl⟩ := hV.2.shape
  clear hV
  by_cases hz : mcode m = 0
  · have hok := mcode_vars hz
    have hcn := (fun w1 (hb : Below w.heap.size w w1) => behindVar_any _ ro m.rules.length rc m.vars 0 w1 hok (Nat.zero_le _) (HV.out.1.below hb))
    rw [segP_zero, show ((0 : Nat) : Int) - 1 = -1 by decide] at hcn
    rw [hz] at hch ⊢
    rw [if_pos rfl]
    generalize prodTo m.vars m.vars.length = N at *
    generalize m.vars.length = n at *
    generalize m.rules.length = rn at *
    clear hz hok HV
    go_enter Tryz.func20, Tryz.ntmps20
    go_wp2_with (first | (go_at_call 44; refine (hch _).mono ?_; rintro e w1 ⟨rfl, hb1⟩; have hcb0 : w1.cell? ⟨w.heap.size, 0, none⟩ = some (.slice ao n cap) := (hb1.cell (p := ⟨w.heap.size, 0, none⟩) (by simp)).trans (by simp [go_sem]); have hcb1 : w1.cell? ⟨w.heap.size, 1, none⟩ = some (.slice ro rn rc) := (hb1.cell (p := ⟨w.heap.size, 1, none⟩) (by simp)).trans (by simp [go_sem]); have hbw := (hA _).trans (hb1.mono (hA _).size)) | (go_at_call 45; refine (hcn _ hbw).mono ?_; rintro e w2 ⟨rfl, hb2⟩))
    go_ret2
    exact ⟨rfl, hbw.trans (hb2.mono hbw.size)⟩
  · rw [if_neg hz]
    generalize mcode m = x at *
    generalize m.vars.length = n at *
    generalize m.rules.length = rn at *
    clear HV
    go_enter Tryz.func20, Tryz.ntmps20
    go_wp2_with (go_at_call 44; refine (hch _).mono ?_; rintro e w1 ⟨rfl, hb1⟩)
    go_ret2
    exact ⟨rfl, (hA _).trans (hb1.mono (hA _).size)⟩
end Go.Proofs.YtdlpmomohbdpgaaGreatDoor

/-
  The contract of the document's own CodeOf.
-/
namespace Go.Proofs.YtdlpmomohbdpgaaGreatDoor
open Go.ChangeShapes Go.WideShapes Go.ChangeAt Go.RowKit Go.Deep
open Terms Tm

theorem rcode_bad (va vr vv : Value) (m : Mo) (w : World) (hV : ModelV w va vr m) (io : Option Addr) (il ic : Nat) (hv : vv = .slice io il ic) (h : mcode m ≠ 0) :
    Calls Tryz.prog 69 #[.agg #[va, vr], vv] w fun e w' => e = .returned (.tuple #[.int .i64 0, .int .i64 (mcode m)]) ∧ Below w.heap.size w w' := by
  subst hv
  have hA : ∀ o, Below w.heap.size w (w.alloc o) := fun o => (Below.refl _ _).alloc (Nat.le_refl _) o
  have hch := fun o => rmodel_any va vr m (w.alloc o) (hV.below (hA o))
  obtain ⟨ao, cap, rfl⟩ := hV.1.shape
  obtain ⟨ro, rc, rfl⟩ := hV.2.shape
  generalize mcode m = x at *
  generalize m.vars.length = n at *
  generalize m.rules.length = rn at *
  clear hV
  go_enter Tryz.func69, Tryz.ntmps69
  go_wp2_with (go_at_call 44; refine (hch _).mono ?_; rintro e w1 ⟨rfl, hb1⟩)
  go_ret2
  exact ⟨rfl, (hA _).trans (hb1.mono (hA _).size)⟩
theorem rcode_len (va vr vv : Value) (m : Mo) (w : World) (hV : ModelV w va vr m) (io : Option Addr) (il ic : Nat) (hv : vv = .slice io il ic) (h : mcode m = 0) (hl : il ≠ m.vars.length) :
    Calls Tryz.prog 69 #[.agg #[va, vr], vv] w fun e w' => e = .returned (.tuple #[.int .i64 0, .int .i64 9]) ∧ Below w.heap.size w w' := by
  subst hv
  have hA : ∀ o, Below w.heap.size w (w.alloc o) := fun o => (Below.refl _ _).alloc (Nat.le_refl _) o
  have hch := fun o => rmodel_any va vr m (w.alloc o) (hV.below (hA o))
  rw [h] at hch
  obtain ⟨ao, cap, rfl⟩ := hV.1.shape
  obtain ⟨ro, rc, rfl⟩ := hV.2.shape
  generalize m.vars.length = n at *
  generalize m.rules.length = rn at *
  have hne : ((il : Int) == (n : Int)) = false := by rw [beq_eq_false_iff_ne]; omega
  clear hV h
  go_enter Tryz.func69, Tryz.ntmps69
  go_wp2_with (go_at_call 44; refine (hch _).mono ?_; rintro e w1 ⟨rfl, hb1⟩; have hcb : w1.cell? ⟨w.heap.size, 0, none⟩ = some (.slice ao n cap) := (hb1.cell (p := ⟨w.heap.size, 0, none⟩) (by simp)).trans (by simp [go_sem]))
  all_goals first | (exfalso; omega) | go_ret2
  all_goals exact ⟨rfl, (hA _).trans (hb1.mono (hA _).size)⟩

set_option maxHeartbeats 3200000 in
theorem rcode_loop (va vr vv : Value) (m : Mo) (vals : List Int) (w : World) (hV : ModelV w va vr m) (hI : IntsV w vv vals) (h : mcode m = 0) (hlen : vals.length = m.vars.length) :
    Calls Tryz.prog 69 #[.agg #[va, vr], vv] w fun e w' => e = .returned (.tuple #[.int .i64 (cval m vals), .int .i64 (ccode m vals)]) ∧ Below w.heap.size w w' := by
  have hA : ∀ o, Below w.heap.size w (w.alloc o) := fun o => (Below.refl _ _).alloc (Nat.le_refl _) o
  have hch := fun o => rmodel_any va vr m (w.alloc o) (hV.below (hA o))
  rw [h] at hch
  have hok := mcode_vars h
  have HOK : Hid (VarsOk m.vars) := hok
  have h6 := hok.1
  obtain ⟨ao, cap, rfl⟩ := hV.1.shape
  obtain ⟨ro, rc, rfl⟩ := hV.2.shape
  obtain ⟨io, icap, rfl⟩ := hI.shape
  have hbv := (fun w1 (hb : Below w.heap.size w w1) a (ha : a ≤ m.vars.length) => behindVar_any (.slice ao m.vars.length cap) ro m.rules.length rc m.vars a w1 hok ha (hV.1.below hb))
  have HBV := (show Hid _ from hbv)
  have HV : Hid (VarsV w (.slice ao m.vars.length cap) m.vars) := hV.1
  have HI : Hid (IntsV w (.slice io vals.length icap) vals) := hI
  have HYes : Hid ((∀ i, i < m.vars.length → inB m.vars vals i) → ccode m vals = 0 ∧ cval m vals = sumTo m.vars vals m.vars.length) := fun hin => by
    have h1 := ccode_yes h ⟨hlen, hin⟩
    exact ⟨h1, by unfold cval; rw [if_pos h1, sum_all]⟩
  have HNo : Hid (∀ k, k < m.vars.length → ¬ inB m.vars vals k → ccode m vals = 9 ∧ cval m vals = 0) := fun k hk hin => by
    have h1 := ccode_no h (vals := vals) (fun h => hin (h.2 k hk))
    exact ⟨h1, by unfold cval; rw [h1, if_neg (by decide)]⟩
  have HLen : Hid (vals.length = m.vars.length) := hlen
  obtain ⟨n, hn⟩ : ∃ n, n = m.vars.length := ⟨_, rfl⟩
  have HN : Hid (n = m.vars.length) := hn
  rw [hlen] at HI ⊢
  rw [← hn] at h6 hch HBV HV HI HYes HNo ⊢
  generalize m.rules.length = rn at *
  generalize ccode m vals = cc at *
  generalize cval m vals = cv at *
  clear hV hI hbv hlen hn hok h
  go_enter Tryz.func69, Tryz.ntmps69
  go_wp2_with (go_at_call 44; refine (hch _).mono ?_; rintro e w1 ⟨rfl, hb1⟩; have hcb : w1.cell? ⟨w.heap.size, 0, none⟩ = some (.slice ao n cap) := (hb1.cell (p := ⟨w.heap.size, 0, none⟩) (by simp)).trans (by simp [go_sem]))
  have hb1' : Below (w.heap.size + 1) (w.alloc (.cells #[.slice ao n cap, .slice ro rn rc] 25)) w1 := hb1.mono (by simp)
  clear hch hcb hb1
  go_loopw [7, 8] (fun st i wr => ∃ k : Nat, k ≤ n ∧ i = .int .i64 k ∧ st = .int .i64 (sumTo m.vars vals k) ∧ Hid (∀ i, i < k → inB m.vars vals i) ∧ Below (w.heap.size + 1) (w.alloc (.cells #[.slice ao n cap, .slice ro rn rc] 25)) wr) (fun _ i _ => n - (intOf i).toNat)
  case atStart => exact ⟨0, Nat.zero_le _, rfl, rfl, fun j hj => by omega, hb1'⟩
  case round =>
    obtain ⟨k, hk, rfl, rfl, HJ, hbelB⟩ := hrel
    clear hb1'
    have hbel := (hA _).trans (hbelB.mono (Nat.le_succ _))
    have hszb : w.heap.size + 1 ≤ wr.heap.size := by have := hbelB.size; simp at this; omega
    have hlb : w.heap.size < wr.heap.size := by omega
    have cb := (hbelB.cell (p := ⟨w.heap.size, 0, none⟩) (by simp)).trans (show _ = some (.slice ao n cap) by simp [go_sem])
    have cb1 := (hbelB.cell (p := ⟨w.heap.size, 1, none⟩) (by simp)).trans (show _ = some (.slice ro rn rc) by simp [go_sem])
    by_cases hlt : k < n
    · obtain ⟨b, off, rfl, hblt, hat⟩ := HV.out.at (i := k) (by rw [← HN.out]; exact hlt)
      obtain ⟨ib, ioff, rfl, hilt, hic⟩ := HI.out.at (i := k) (by rw [HLen.out, ← HN.out]; exact hlt)
      obtain ⟨c0, c1, c2, c3⟩ := hat.below hbel hblt
      have hic2 := (hbel.cell (p := ⟨ib, ioff + k, none⟩) hilt).trans hic
      have HNk := (show Hid _ from HNo.out k hlt)
      unfold inB at HNk
      have hsb := sum_bounds HOK.out (k := k) (by rw [← HN.out]; exact hk) HJ.out
      have hgb := segP_bounds HOK.out (i := k + 1) (by rw [← HN.out]; exact hlt)
      have hvb := HOK.out.at (j := k) (by rw [← HN.out]; exact hlt)
      have HPr : Hid (sumTo m.vars vals (k + 1) = sumTo m.vars vals k + (vals.getD k 0 - (m.vars.getD k vr0).lo) * segP m.vars (k + 1)) := rfl
      have HJ3 : Hid ((m.vars.getD k vr0).lo ≤ vals.getD k 0 ∧ vals.getD k 0 ≤ (m.vars.getD k vr0).hi → ∀ i, i < k + 1 → inB m.vars vals i) := fun h i hi => by
        by_cases hik : i = k
        · subst hik; exact h
        · exact HJ.out i (by omega)
      have hbvk := (fun w1 hb => HBV.out w1 hb (k + 1) (by omega))
      rw [show ((k + 1 : Nat) : Int) - 1 = (k : Int) by omega] at hbvk
      generalize sumTo m.vars vals k = st at *
      generalize segP m.vars (k + 1) = sg at *
      generalize m.vars.getD k vr0 = x at *
      generalize vals.getD k 0 = y at *
      obtain ⟨s, lo, hi, ini⟩ := x
      simp only [vspan] at c0 c1 c2 c3 HNk HJ3 HPr hvb
      obtain ⟨hv1, hv2, hv3, hv4, hv5, hv6, hv7⟩ := hvb
      clear hat hic HJ
      have hi0 : (0 : Int) ≤ (k : Int) := Int.natCast_nonneg _
      have hi1 : (k : Int) < (n : Int) := by omega
      have hin0 := fun w => in_any y lo hi w
      have hbo : b < wr.heap.size := by omega
      have hio : ib < wr.heap.size := by omega
      by_cases hin : lo ≤ y ∧ y ≤ hi
      · rw [decide_eq_true hin] at hin0
        have HJ4 := (show Hid _ from HJ3.out hin)
        obtain ⟨hy1, hy2⟩ := hin
        have hm1 : 0 ≤ (y - lo) * sg := Int.mul_nonneg (by omega) (by omega)
        have hm2 : (y - lo) * sg ≤ 262144 := by
          have := Int.mul_le_mul (show y - lo ≤ 64 by omega) hgb.2 (by omega) (by omega); simpa using this
        have hw1 : IntKind.i64.wrap (y - lo) = y - lo := wr64 (by omega) (by omega)
        have hw2 : IntKind.i64.wrap ((y - lo) * sg) = (y - lo) * sg := wr64 (by omega) (by omega)
        have hw3 : IntKind.i64.wrap (st + (y - lo) * sg) = st + (y - lo) * sg := wr64 (by omega) (by omega)
        clear HJ3 HNk HNo HYes HBV
        go_wp2_with fail
        go_quiet ((go_at_call 22; exact Calls.quiet_of_same (hin0 _)))
        go_wp2_with fail
        have hB0 : Below wr.heap.size wr (wr.drewN nq) := below_drewN (Below.refl _ _) _
        have hbvk2 := fun w2 (hb2 : Below wr.heap.size wr w2) => hbvk w2 (hbel.trans (hb2.mono hbel.size))
        have hS0 : ∀ w', Below wr.heap.size wr w' → w'.cell? ⟨w.heap.size, 0, none⟩ = some (.slice (some ⟨b, off, none⟩) n cap) ∧ w'.cell? ⟨w.heap.size, 1, none⟩ = some (.slice ro rn rc) ∧ w'.cell? ⟨b, off + k * 4 + 1, none⟩ = some (.int .i64 lo) ∧ w'.cell? ⟨ib, ioff + k, none⟩ = some (.int .i64 y) := fun w' hw' =>
          ⟨(hw'.cell (p := ⟨w.heap.size, 0, none⟩) hlb).trans cb, (hw'.cell (p := ⟨w.heap.size, 1, none⟩) hlb).trans cb1, (hw'.cell (p := ⟨b, off + k * 4 + 1, none⟩) hbo).trans c1, (hw'.cell (p := ⟨ib, ioff + k, none⟩) hio).trans hic2⟩
        clear hbvk cb cb1 c0 c1 c2 c3 hic2
        go_region_held3 (fun w' => w'.cell? ⟨w.heap.size, 0, none⟩ = some (.slice (some ⟨b, off, none⟩) n cap) ∧ w'.cell? ⟨w.heap.size, 1, none⟩ = some (.slice ro rn rc) ∧ w'.cell? ⟨b, off + k * 4 + 1, none⟩ = some (.int .i64 lo) ∧ w'.cell? ⟨ib, ioff + k, none⟩ = some (.int .i64 y))
          (exact hS0 _ (by first | exact hB0 | exact hB0.drew | exact hB0.drew.trans (hb2.mono (by simp))))
          (first | (go_at_call 45; refine (hbvk2 _ hB0.drew).mono ?_; rintro e w2 ⟨rfl, hb2⟩))
        go_wp2_with fail
        go_roundw
        case rel => exact ⟨k + 1, hlt, by go_num, by rw [HPr.out], HJ4, hbelB.trans ((hB0.drew.trans (hb2.mono (by simp))).mono hszb)⟩
        case measure => simp [intOf]; omega
      · rw [decide_eq_false hin] at hin0
        have HR := (show Hid _ from HNk.out hin)
        clear hin HJ3 HNk HNo HYes HBV hbvk
        go_wp2_with fail
        go_quiet ((go_at_call 22; exact Calls.quiet_of_same (hin0 _)))
        go_wp2_with fail
        go_ret2
        rw [HR.out.1, HR.out.2]
        exact ⟨rfl, below_drewN hbel _⟩
    · have hkn : k = n := by omega
      subst hkn
      have HR := (show Hid _ from HYes.out HJ.out)
      generalize sumTo m.vars vals k = cd at *
      clear HJ HYes HNo HBV
      go_wp2
      go_ret2
      rw [HR.out.1, HR.out.2]
      exact ⟨rfl, hbel⟩

/-- THE CONTRACT OF CodeOf. -/
theorem rcodes_any (va vr vv : Value) (m : Mo) (vals : List Int) (w : World) (hV : ModelV w va vr m) (hI : IntsV w vv vals) :
    Calls Tryz.prog 69 #[.agg #[va, vr], vv] w fun e w' => e = .returned (.tuple #[.int .i64 (cval m vals), .int .i64 (ccode m vals)]) ∧ Below w.heap.size w w' := by
  obtain ⟨io, ic, hv⟩ := hI.shape
  by_cases h : mcode m = 0
  · by_cases hl : vals.length = m.vars.length
    · exact rcode_loop va vr vv m vals w hV hI h hl
    · have h9 := ccode_no h (vals := vals) (fun h => hl h.1)
      unfold cval
      rw [h9, if_neg (by decide)]
      exact rcode_len va vr vv m w hV io _ ic hv h hl
  · have h9 := ccode_bad (vals := vals) h
    unfold cval
    rw [h9, if_neg h]
    exact rcode_bad va vr vv m w hV io _ ic hv h
end Go.Proofs.YtdlpmomohbdpgaaGreatDoor

/-
  The contract of the document's own FirstCode.
-/
namespace Go.Proofs.YtdlpmomohbdpgaaGreatDoor
open Go.ChangeShapes Go.WideShapes Go.ChangeAt Go.RowKit Go.Deep
open Terms Tm

theorem ivals_inits {l : List Vr} {k : Nat} (h : k < l.length) : ivals (initsL (l.take (k + 1))) = ivals (initsL (l.take k)) ++ [.int .i64 (l.getD k vr0).ini] := by
  rw [List.take_succ_eq_append_getElem h, List.getD_eq_getElem?_getD, List.getElem?_eq_getElem h]
  simp only [ivals, initsL, List.map_append, List.map_cons, List.map_nil, Option.getD_some]

set_option maxHeartbeats 1600000 in
/-- THE CONTRACT OF FirstCode. -/
theorem rfirst_any (va vr : Value) (m : Mo) (w : World) (hz : m.vars.length * 40 ≤ 140737488355328) (hV : ModelV w va vr m) :
    Calls Tryz.prog 56 #[.agg #[va, vr]] w fun e w' => e = .returned (.tuple #[.int .i64 (if mcode m = 0 then codeTo m.vars (initsL m.vars) m.vars.length else 0), .int .i64 (mcode m)]) ∧ Below w.heap.size w w' := by
  have hres : ccode m (initsL m.vars) = mcode m ∧ cval m (initsL m.vars) = if mcode m = 0 then codeTo m.vars (initsL m.vars) m.vars.length else 0 := by
    by_cases h : mcode m = 0
    · have h1 := ccode_yes h (vals := initsL m.vars) ⟨by simp [initsL], inits_in (mcode_vars h)⟩
      refine ⟨by rw [h1, h], ?_⟩
      unfold cval
      rw [h1, if_pos rfl, if_pos h]
    · have h1 := ccode_bad (vals := initsL m.vars) h
      refine ⟨h1, ?_⟩
      unfold cval
      rw [h1, if_neg h]
  have hcf := (fun vv w1 (hb : Below w.heap.size w w1) (hI : IntsV w1 vv (initsL m.vars)) => rcodes_any va vr vv m (initsL m.vars) w1 (hV.below hb) hI)
  rw [hres.1, hres.2] at hcf
  have HCF := (show Hid _ from hcf)
  have HV : Hid (VarsV w va m.vars) := hV.1
  obtain ⟨ao, cap, rfl⟩ := hV.1.shape
  obtain ⟨ro, rc, rfl⟩ := hV.2.shape
  generalize (if mcode m = 0 then codeTo m.vars (initsL m.vars) m.vars.length else 0) = res at *
  generalize mcode m = x at *
  obtain ⟨n, hn⟩ : ∃ n, n = m.vars.length := ⟨_, rfl⟩
  have HN : Hid (n = m.vars.length) := hn
  rw [← hn] at hz HCF HV ⊢
  generalize m.rules.length = rn at *
  obtain ⟨i0, hi, hz0, hz1, hz2⟩ := info_parts infoInt
  clear hV hn hcf hres
  have hA : Below w.heap.size w (w.alloc (.cells #[.slice ao n cap, .slice ro rn rc] 25)) := (Below.refl _ _).alloc (Nat.le_refl _) _
  go_enter Tryz.func56, Tryz.ntmps56
  go_wp2
  go_loopw [4, 5] (fun vv i wr => ∃ k : Nat, k ≤ n ∧ i = .int .i64 k ∧ Hid (wr.ownsRow (w.heap.size + 1) 3 1 vv k (ivals (initsL (m.vars.take k)))) ∧ Below (w.heap.size + 1) (w.alloc (.cells #[.slice ao n cap, .slice ro rn rc] 25)) wr) (fun _ i _ => n - (intOf i).toNat)
  case atStart => exact ⟨0, Nat.zero_le _, rfl, World.ownsRow_nil _ _ _ _, Below.refl _ _⟩
  case round =>
    obtain ⟨k, hk, rfl, HOwn, hbelB⟩ := hrel
    have hbel := hA.trans (hbelB.mono (Nat.le_succ _))
    have hszb : w.heap.size + 1 ≤ wr.heap.size := by have := hbelB.size; simp at this; omega
    have hlb : w.heap.size < wr.heap.size := by omega
    have cb := (hbelB.cell (p := ⟨w.heap.size, 0, none⟩) (by simp)).trans (show _ = some (.slice ao n cap) by simp [go_sem])
    have cb1 := (hbelB.cell (p := ⟨w.heap.size, 1, none⟩) (by simp)).trans (show _ = some (.slice ro rn rc) by simp [go_sem])
    by_cases hlt : k < n
    · obtain ⟨b, off, rfl, hblt, hat⟩ := HV.out.at (i := k) (by rw [← HN.out]; exact hlt)
      obtain ⟨c0, c1, c2, c3⟩ := hat.below hbel hblt
      have HSn := (show Hid _ from ivals_inits (l := m.vars) (k := k) (by rw [← HN.out]; exact hlt))
      generalize m.vars.getD k vr0 = x at *
      obtain ⟨s, lo, hi', ini⟩ := x
      simp only at c0 c1 c2 c3 HSn
      have hown := HOwn.out
      have hnb := hown.lt
      have hown2 := fun o => hown.alloc o
      have h63 : k + 1 ≤ maxLen := by unfold maxLen; omega
      have hkb : (k + 1) * 8 ≤ 140737488355328 := by omega
      have hbase : ∀ o, w.heap.size + 1 ≤ (wr.alloc o).heap.size := fun o => by simp; omega
      clear hat hown
      go_wp2_with (at_builtin; refine wpList_append_own _ rfl (.tmp 15) (.tmp 22) 40 rfl (w.heap.size + 1) 3 i0 (.int .i64 0) 1 8 Tryz.underlying40 hi hz0 hz1 hz2 rfl (by decide) _ k _ rfl (hown2 _) ⟨wr.heap.size, 0, none⟩ 1 1 [.int .i64 ini] rfl rfl (cell_one_new _ _ _) (by intro u hu; simp at hu; subst hu; rfl) h63 hkb (hbase _) ?_)
      intro v' w4 hown' hgrow _
      have hb4 : Below (w.heap.size + 1) (w.alloc (.cells #[.slice (some ⟨b, off, none⟩) n cap, .slice ro rn rc] 25)) w4 := (hbelB.alloc hszb _).grown hgrow (by simp; omega) (fun q hq => (hnb q hq).1)
      have HO4 : Hid (w4.ownsRow (w.heap.size + 1) 3 1 v' (k + 1) (ivals (initsL (m.vars.take (k + 1))))) := by
        show World.ownsRow _ _ _ _ _ _ _
        rw [HSn.out]
        exact hown'
      clear hown' hgrow hown2
      go_wp2
      go_roundw
      case rel => exact ⟨k + 1, hlt, by go_num, HO4, hb4⟩
      case measure => simp [intOf]; omega
    · have hkn : k = n := by omega
      subst hkn
      have hown := HOwn.out
      obtain ⟨vo, vc, rfl⟩ := owns_slice hown
      have hI : IntsV wr (.slice vo k vc) (initsL m.vars) := by
        rw [List.take_of_length_le (by rw [← HN.out]; omega)] at hown
        exact intsV_of_owns (by rw [show (initsL m.vars).length = k by simp [initsL, HN.out]]; exact hown)
      have hcf := HCF.out _ wr hbel hI
      clear hI hown HOwn HCF
      go_wp2_with (go_at_call 69; refine hcf.mono ?_; rintro e w2 ⟨rfl, hb2⟩)
      go_ret2
      exact ⟨rfl, hbel.trans (hb2.mono hbel.size)⟩
end Go.Proofs.YtdlpmomohbdpgaaGreatDoor

/-
  The contract of the document's own worked.
-/
namespace Go.Proofs.YtdlpmomohbdpgaaGreatDoor
open Go.ChangeShapes Go.WideShapes Go.ChangeAt Go.RowKit Go.Deep
open Terms Tm

def wkN (r : Option Int) : Int := match r with
  | some x => x
  | none => 0
def wkC (r : Option Int) : Int := match r with
  | some _ => 0
  | none => 8

/-- what the row of the parts' values is, when those from k on are in it. -/
def RowF (t : Tm) (env : List Int) (base np : Nat) (vao : Option Addr) (wr : World) (k : Nat) : Prop :=
  np = 0 ∨ ∃ g, vao = some ⟨g, 0, none⟩ ∧ base ≤ g ∧ g < wr.heap.size ∧ (∀ j, j < np → wr.frozen? ⟨g, j, none⟩ = false ∧ ∃ u, wr.cell? ⟨g, j, none⟩ = some u) ∧ (∀ j, k ≤ j → j < np → ∃ x, (t.kids.getD j t).eval env = some x ∧ wr.cell? ⟨g, j, none⟩ = some (.int .i64 x))
theorem RowF.later {t : Tm} {env : List Int} {base np k : Nat} {vao : Option Addr} {w w' : World} (h : RowF t env base np vao w k) (hb : Below w.heap.size w w') : RowF t env base np vao w' k := by
  rcases h with h | ⟨g, h1, h2, h3, h4, h5⟩
  · exact .inl h
  · refine .inr ⟨g, h1, h2, Nat.lt_of_lt_of_le h3 hb.size, fun j hj => ?_, fun j hk hj => ?_⟩
    · obtain ⟨f, u, c⟩ := h4 j hj
      exact ⟨(hb.frozen (p := ⟨g, j, none⟩) h3).trans f, u, (hb.cell (p := ⟨g, j, none⟩) h3).trans c⟩
    · obtain ⟨x, e, c⟩ := h5 j hk hj
      exact ⟨x, e, (hb.cell (p := ⟨g, j, none⟩) h3).trans c⟩
theorem RowF.store {t : Tm} {env : List Int} {base np k g : Nat} {x : Int} {w : World} (h : RowF t env base np (some ⟨g, 0, none⟩) w (k + 1)) (hk : k < np) (hx : (t.kids.getD k t).eval env = some x) : RowF t env base np (some ⟨g, 0, none⟩) (w.setCell ⟨g, k, none⟩ (.int .i64 x)) k := by
  rcases h with h | ⟨g', h1, h2, h3, h4, h5⟩
  · omega
  · obtain rfl : g = g' := by simpa using h1
    refine .inr ⟨g, rfl, h2, by simpa using h3, fun j hj => ?_, fun j hkj hj => ?_⟩
    · obtain ⟨f, u, c⟩ := h4 j hj
      refine ⟨by simpa [go_sem] using f, ?_⟩
      by_cases hjk : j = k
      · subst hjk; exact ⟨.int .i64 x, by simp [go_sem, c]⟩
      · exact ⟨u, by rw [← c]; exact World.cell?_setCell_other _ _ _ _ (by intro h; injection h with _ h2; omega)⟩
    · by_cases hjk : j = k
      · subst hjk
        obtain ⟨f, u, c⟩ := h4 j hj
        exact ⟨x, hx, by simp [go_sem, c]⟩
      · obtain ⟨y, e, c⟩ := h5 j (by omega) hj
        exact ⟨y, e, by rw [← c]; exact World.cell?_setCell_other _ _ _ _ (by intro h; injection h with _ h2; omega)⟩

theorem wrE {x : Int} (h1 : -9223372036854775808 ≤ x) (h2 : x ≤ 9223372036854775807) : IntKind.i64.wrap x = x := by
  rw [IntWalk.i64_left]
  exact IntWalk.wrap64_in x ⟨h1, h2⟩
theorem mul_big {x y : Int} (hx : -1000000 ≤ x ∧ x ≤ 1000000) (hy : -1000000 ≤ y ∧ y ≤ 1000000) : -1000000000000 ≤ x * y ∧ x * y ≤ 1000000000000 := by
  have h : (x * y).natAbs ≤ 1000000000000 := by
    rw [Int.natAbs_mul]
    exact Nat.mul_le_mul (show x.natAbs ≤ 1000000 by omega) (show y.natAbs ≤ 1000000 by omega)
  omega
theorem IntsV.atE {w : World} {ao : Option Addr} {cap n : Nat} {l : List Int} (h : IntsV w (.slice ao n cap) l) {i : Nat} (hi : i < l.length) : ∃ b off, ao = some ⟨b, off, none⟩ ∧ b < w.heap.size ∧ w.cell? ⟨b, off + i, none⟩ = some (.int .i64 (l.getD i 0)) := by
  obtain ⟨ao', cap', h1, h3⟩ := h
  injection h1 with e1 e2 e3
  subst e1
  obtain ⟨b, off, e, hb, hh⟩ := h3 (by intro h; subst h; simp at hi)
  exact ⟨b, off, e, hb, hh i hi⟩
theorem eval_kid_none {t : Tm} {env : List Int} {k : Nat} (hk : k < t.kids.length) (h : (t.kids.getD k t).eval env = none) : t.eval env = none := by
  cases t with
  | leaf a b => simp [kids] at hk
  | un a b s =>
    have : k = 0 := by simp [kids] at hk; exact hk
    subst this
    simp only [kids, List.getD_cons_zero] at h
    simp [eval, h]
  | bi a b s u =>
    have hk2 : k = 0 ∨ k = 1 := by simp [kids] at hk; omega
    rcases hk2 with rfl | rfl
    · simp only [kids, List.getD_cons_zero] at h
      simp [eval, h]
    · simp only [kids, List.getD_cons_succ, List.getD_cons_zero] at h
      cases hs : s.eval env <;> simp [eval, h, hs]

set_option maxHeartbeats 1600000 in
set_option maxRecDepth 20000 in
theorem worked_any (eao : Option Addr) (ecap en : Nat) (env : List Int) (hev : Hid (EnvOk env)) (hen : Hid (env.length = en)) (d : Nat) : ∀ (t : Tm) (v : Value) (w : World), t.size ≤ d → t.size ≤ 60 → t.Good en → t.typed = true → OpsV w v t.ops → IntsV w (.slice eao en ecap) env →
    Calls Tryz.prog 68 #[v, .slice eao en ecap] w fun e w' => e = .returned (.tuple #[.int .i64 (wkN (t.eval env)), .int .i64 (wkC (t.eval env))]) ∧ Below w.heap.size w w' := by
  induction d with
  | zero => intro t v w hd; have := t.size_pos; omega
  | succ d ih =>
    intro t v w hd h60 hg hty hV hE
    have hsp := splitOf_any v t.ops w hV
    rw [splitL_tree hg.wf h60, tree_code hg.wf h60] at hsp
    obtain ⟨i0, hi, hz0, hz1, hz2⟩ := info_parts infoInt
    have HV : Hid (OpsV w v t.ops) := hV
    have HE : Hid (IntsV w (.slice eao en ecap) env) := hE
    have HGT : Hid (t.Good en ∧ t.typed = true) := ⟨hg, hty⟩
    obtain ⟨va, vn, vc, hvs⟩ : ∃ a n c, v = .slice a n c := by obtain ⟨a, c, rfl, _⟩ := hV; exact ⟨_, _, _, rfl⟩
    subst hvs
    have hk2 := t.kids_le
    have HS : Hid (∀ i, i < t.kids.length → (t.kids.getD i t).size ≤ d ∧ (t.kids.getD i t).size ≤ 60 ∧ (t.kids.getD i t).Good en ∧ (t.kids.getD i t).typed = true) := fun i hi => by
      have := t.kid_at hi
      exact ⟨by omega, by omega, hg.kid hi, ((typed_kids t).1 hty i hi).2⟩
    obtain ⟨np, hnp⟩ : ∃ np, np = t.kids.length := ⟨_, rfl⟩
    have HNP : Hid (np = t.kids.length) := hnp
    rw [← hnp] at hk2
    obtain ⟨res, hres⟩ : ∃ res, t.eval env = res := ⟨_, rfl⟩
    rw [hres]
    have HRS : Hid (t.eval env = res) := hres
    clear hV hE hnp hres hg hty
    go_enter Tryz.func68, Tryz.ntmps68
    go_wp2_with (go_at_call 88; refine hsp.mono ?_; rintro e w1 ⟨tv, rfl, hb1, ht⟩; obtain ⟨tao, tcap, htv, htat⟩ := ht; rw [List.length_map, ← HNP.out] at htv; subst htv)
    have HT := (show Hid _ from htat)
    clear htat hsp
    go_loopw [8, 9] (fun vv c wr => ∃ i : Nat, i ≤ np ∧ c = .int .i64 i ∧ wr.ownsRow w1.heap.size 3 1 vv i (List.replicate i (.int .i64 0)) ∧ Below w1.heap.size w1 wr) (fun _ c _ => np - (intOf c).toNat)
    case atStart => exact ⟨0, Nat.zero_le _, rfl, World.ownsRow_nil _ _ _ _, Below.refl _ _⟩
    case round =>
      obtain ⟨i, hile, rfl, hown, hbel⟩ := hrel
      by_cases hlt : i < np
      · have hsz := hbel.size
        go_wp2_with (at_builtin; refine wpList_append_own _ rfl (.tmp 26) (.tmp 27) 40 rfl w1.heap.size 3 i0 (.int .i64 0) 1 8 Tryz.underlying40 hi hz0 hz1 hz2 rfl (by decide) _ _ _ rfl (hown.alloc _) ⟨_, 0, none⟩ 1 1 [.int .i64 0] rfl rfl (cell_one_new _ _ _) ?c2 ?c3 ?c4 ?c5 ?_)
        case c2 => intro u hu; simp at hu; subst hu; rfl
        case c3 => unfold maxLen; omega
        case c4 => omega
        case c5 => simp; omega
        intro v' w4 hown' hgrow _
        have hb4 : Below w1.heap.size w1 w4 := (hbel.alloc (by omega) _).grown hgrow (by simp; omega) (fun q hq => (hown.lt q hq).1)
        have ho4 : w4.ownsRow w1.heap.size 3 1 v' (i + 1) (List.replicate (i + 1) (.int .i64 0)) := by
          rw [List.replicate_succ']; exact hown'
        clear hown' hgrow hown
        go_wp2
        go_roundw
        case rel => exact ⟨i + 1, by omega, by go_num, ho4, hb4⟩
        case measure => simp [intOf]; omega
      · have hin : i = np := by omega
        subst hin
        clear hlt hile
        generalize wr = wo at *
        go_wp2_with fail
        obtain ⟨vao, vcap, rfl⟩ := owns_slice hown
        have HR0 : Hid (RowF t env w1.heap.size i vao wo i) := by
          show RowF _ _ _ _ _ _ _
          rcases hown.2 with ⟨h1, h2⟩ | ⟨g, cap, cur, h1, h2, h3, h4⟩
          · exact .inl h2
          · injection h1 with e1 e2 e3
            refine .inr ⟨g, e1, h2, (Array.getElem?_eq_some_iff.1 h3).1, fun j hj => ⟨by simp [World.frozen?, h3], ?_⟩, fun j hkj hj => by omega⟩
            exact ⟨.int .i64 0, by rw [e1, e3] at hown; rw [hown.cellAt j (by omega)]; simp [hj]⟩
        have HBo : Hid (Below w1.heap.size w1 wo) := hbel
        clear hown hbel
        go_loopw [10] (fun c wr => ∃ k : Nat, k ≤ i ∧ c = .int .i64 ((k : Int) - 1) ∧ Below w1.heap.size w1 wr ∧ Hid (RowF t env w1.heap.size i vao wr k)) (fun c _ => ((intOf c) + 1).toNat)
        case atStart => exact ⟨i, Nat.le_refl _, by go_num, HBo.out, HR0.out⟩
        case round =>
          obtain ⟨k, hki, rfl, hbel, HR⟩ := hrel
          by_cases hk : 0 < k
          · obtain ⟨k, rfl⟩ : ∃ k', k = k' + 1 := ⟨k - 1, by omega⟩
            rw [show (((k + 1 : Nat) : Int) - 1) = (k : Int) by omega]
            have hltk : k < t.kids.length := by rw [← HNP.out]; omega
            obtain ⟨tb, toff, rfl, hbl, hcs⟩ := HT.out (by intro h; have := congrArg List.length h; rw [List.length_map] at this; simp at this; rw [this] at hltk; simp at hltk)
            obtain ⟨u, hu, hou⟩ := hcs k (by rw [List.length_map]; exact hltk)
            have hgd : (t.kids.map ops).getD k [] = (t.kids.getD k t).ops := by
              rw [List.getD_eq_getElem?_getD, List.getElem?_map, List.getD_eq_getElem?_getD, List.getElem?_eq_getElem hltk]
              rfl
            rw [hgd] at hou
            obtain ⟨hs1, hs2, hs3, hs4⟩ := HS.out k hltk
            have hbw := hb1.trans (hbel.mono hb1.size)
            have hrec := ih (t.kids.getD k t) u wr hs1 hs2 hs3 hs4 (hou.below hbel) (HE.out.below hbw)
            clear ih
            have hcu := (hbel.cell (p := ⟨tb, toff + k, none⟩) hbl).trans hu
            obtain ⟨ua, un, uc, hus⟩ : ∃ a n c, u = .slice a n c := by obtain ⟨a, c, rfl, _⟩ := hou; exact ⟨_, _, _, rfl⟩
            subst hus
            have HBw : Hid (Below w.heap.size w wr) := hbw
            have HBe : Hid (Below w1.heap.size w1 wr) := hbel
            cases hx : (t.kids.getD k t).eval env with
            | none =>
              rw [hx] at hrec
              have HX : Hid (res = none) := by
                show _ = _
                rw [← HRS.out]
                exact eval_kid_none hltk hx
              simp only [wkN, wkC] at hrec
              clear hgd hou hu hcs hs1 hs2 hs3 hs4 hx hbel hbw
              go_wp2_with (go_at_call 68; refine hrec.mono ?_; rintro e w2 ⟨rfl, hb2⟩)
              go_ret2
              rw [HX.out]
              exact ⟨rfl, HBw.out.trans (hb2.mono HBw.out.size)⟩
            | some x =>
              rw [hx] at hrec
              simp only [wkN, wkC] at hrec
              obtain ⟨g, rfl, hg1, hg2, hg3, _⟩ := HR.out.resolve_left (by omega)
              have HX : Hid ((t.kids.getD k t).eval env = some x) := hx
              have HFZ := (show Hid _ from hg3 k (by omega))
              clear hgd hou hu hcs hs1 hs2 hs3 hs4 hx hbel hbw hg3
              go_wp2_with (go_at_call 68; refine hrec.mono ?_; rintro e w2 ⟨rfl, hb2⟩; obtain ⟨hf0, u0, hc0⟩ := HFZ.out; have hf2 := (hb2.frozen (p := ⟨g, k, none⟩) hg2).trans hf0; have hc2 := (hb2.cell (p := ⟨g, k, none⟩) hg2).trans hc0)
              go_roundw
              case rel => exact ⟨k, by omega, by go_num, (HBe.out.trans (hb2.mono HBe.out.size)).setCell (p := ⟨g, k, none⟩) hg1 _, RowF.store (HR.out.later hb2) (by omega) HX.out⟩
              case measure => simp [intOf]
          · have hk0 : k = 0 := by omega
            subst hk0
            have hbw := hb1.trans (hbel.mono hb1.size)
            obtain ⟨bo, bcap, hbe, _, hbh⟩ := HV.out
            obtain ⟨b, off, rfl, hblt, hbat⟩ := hbh t.ops_ne
            injection hbe with e1 e2 e3
            subst e1 e2 e3
            have hhd := hbat 0 (by rw [ops_length]; exact t.size_pos)
            rw [t.ops_head] at hhd
            simp only [Nat.zero_mul, Nat.add_zero] at hhd
            have c0 := (hbw.cell (p := ⟨b, off, none⟩) hblt).trans hhd.1
            have c1 := (hbw.cell (p := ⟨b, off + 1, none⟩) hblt).trans hhd.2
            have hln : 0 < t.ops.length := by rw [ops_length]; exact t.size_pos
            generalize hol : t.ops.length = ol at *
            have HHE : Hid (IntsV wr (.slice eao en ecap) env) := HE.out.below hbw
            have hrow := HR.out
            clear hbat hbh hol hhd HV HT HS HR HR0 HBo ih hk hki
            cases t with
            | leaf k v =>
              have hi0 : i = 0 := HNP.out
              subst hi0
              simp only [kind, val] at c0 c1
              have HRv : Hid (res = some (if k = 1 then v else if k = 2 then env.getD v.toNat 0 else if k = 11 then 1 else 0)) := HRS.out.symm
              have hgd : (k = 1 ∧ -1000 ≤ v ∧ v ≤ 1000) ∨ (k = 2 ∧ 0 ≤ v ∧ v ≤ (en : Int) - 1) ∨ ((k = 11 ∨ k = 12) ∧ v = 0) := HGT.out.1
              clear HRS HGT HNP hrow
              rcases hgd with ⟨rfl, hv1, hv2⟩ | ⟨rfl, hv1, hv2⟩ | ⟨rfl | rfl, rfl⟩
              · have hin := fun w => in_any v (-1000000) 1000000 w
                rw [decide_eq_true (show -1000000 ≤ v ∧ v ≤ 1000000 by omega)] at hin
                go_wp2_with (go_at_call 22; refine (hin _).mono ?_; rintro e w2 ⟨rfl, rfl⟩)
                go_ret2
                rw [HRv.out]
                exact ⟨rfl, hbw⟩
              · obtain ⟨j, rfl⟩ : ∃ j : Nat, v = (j : Int) := ⟨v.toNat, by omega⟩
                have hj : j < env.length := by rw [hen.out]; omega
                obtain ⟨eb, eoff, hea, _, hec⟩ := (show IntsV wr (.slice eao en ecap) env from HHE.out) |> fun h => IntsV.atE h hj
                subst hea
                have hb := hev.out j hj
                have HEV : Hid (res = some (env.getD j 0)) := by show _ = _; rw [HRv.out]; simp
                generalize env.getD j 0 = y at *
                have hin := fun w => in_any y (-1000000) 1000000 w
                rw [decide_eq_true hb] at hin
                have hj0 : (0 : Int) ≤ (j : Int) := Int.natCast_nonneg _
                have hj1 : (j : Int) < (en : Int) := by omega
                clear HRv HHE
                go_wp2_with (go_at_call 22; refine (hin _).mono ?_; rintro e w2 ⟨rfl, rfl⟩)
                go_ret2
                rw [HEV.out]
                exact ⟨rfl, hbw⟩
              · have hin := fun w => in_any 1 (-1000000) 1000000 w
                rw [decide_eq_true (by omega)] at hin
                go_wp2_with (go_at_call 22; refine (hin _).mono ?_; rintro e w2 ⟨rfl, rfl⟩)
                go_ret2
                rw [HRv.out]
                exact ⟨rfl, hbw⟩
              · have hin := fun w => in_any 0 (-1000000) 1000000 w
                rw [decide_eq_true (by omega)] at hin
                go_wp2_with (go_at_call 22; refine (hin _).mono ?_; rintro e w2 ⟨rfl, rfl⟩)
                go_ret2
                rw [HRv.out]
                exact ⟨rfl, hbw⟩
            | un k v a =>
              have hi0 : i = 1 := HNP.out
              subst hi0
              obtain ⟨g, rfl, hg1, hg2, _, hg4⟩ := hrow.resolve_left (by omega)
              obtain ⟨x, hx, cx⟩ := hg4 0 (Nat.le_refl _) (by omega)
              simp only [kids, List.getD_cons_zero] at hx
              obtain ⟨hgk, hgv, hga⟩ := HGT.out.1
              have hty := HGT.out.2
              simp only [typed, Bool.and_eq_true, beq_iff_eq] at hty
              subst hgk hgv
              have hxx := (eval_le hev.out hen.out hga hty.2 x hx).2 (by rw [hty.1]; rfl)
              have HRv : Hid (res = some (1 - x)) := by show _ = _; rw [← HRS.out]; simp [eval, hx]
              simp only [kind, val] at c0 c1
              clear HRS HGT HNP hrow hg4 hx hga hty HHE
              rcases hxx with rfl | rfl
              · have hin := fun w => in_any 1 (-1000000) 1000000 w
                rw [decide_eq_true (by omega)] at hin
                go_wp2_with (go_at_call 22; refine (hin _).mono ?_; rintro e w2 ⟨rfl, rfl⟩)
                go_ret2
                rw [HRv.out]
                exact ⟨rfl, hbw⟩
              · have hin := fun w => in_any 0 (-1000000) 1000000 w
                rw [decide_eq_true (by omega)] at hin
                go_wp2_with (go_at_call 22; refine (hin _).mono ?_; rintro e w2 ⟨rfl, rfl⟩)
                go_ret2
                rw [HRv.out]
                exact ⟨rfl, hbw⟩
            | bi k v a a' =>
              have hi0 : i = 2 := HNP.out
              subst hi0
              obtain ⟨g, rfl, hg1, hg2, _, hg4⟩ := hrow.resolve_left (by omega)
              obtain ⟨x, hx, cx⟩ := hg4 0 (Nat.zero_le _) (by omega)
              obtain ⟨y, hy, cy⟩ := hg4 1 (Nat.zero_le _) (by omega)
              simp only [kids, List.getD_cons_zero, List.getD_cons_succ] at hx hy
              obtain ⟨hk3, hk9, hgv, hga, hga'⟩ := HGT.out.1
              have hty := HGT.out.2
              simp only [typed, Bool.and_eq_true, beq_iff_eq] at hty
              subst hgv
              have hxb := eval_le hev.out hen.out hga hty.1.2 x hx
              have hyb := eval_le hev.out hen.out hga' hty.2.2 y hy
              rw [hty.1.1] at hxb
              rw [hty.2.1] at hyb
              have HRv : Hid (res = lid (bin k x y)) := by show _ = _; rw [← HRS.out]; simp [eval, hx, hy]
              simp only [kind, val] at c0 c1
              obtain ⟨⟨hx1, hx2⟩, hxt⟩ := hxb
              obtain ⟨⟨hy1, hy2⟩, hyt⟩ := hyb
              clear HRS HGT HNP hrow hg4 hx hy hga hga' hty HHE
              have hm1 : -1000000000000 ≤ x * y ∧ x * y ≤ 1000000000000 := mul_big ⟨hx1, hx2⟩ ⟨hy1, hy2⟩
              have hkk : k = 3 ∨ k = 4 ∨ k = 5 ∨ k = 6 ∨ k = 7 ∨ k = 8 ∨ k = 9 := by omega
              rcases hkk with rfl | rfl | rfl | rfl | rfl | rfl | rfl
              · have hw : IntKind.i64.wrap (x + y) = x + y := wrE (by omega) (by omega)
                have hbn : bin 3 x y = x + y := rfl
                rw [hbn] at HRv
                have hin := fun w => in_any (x + y) (-1000000) 1000000 w
                by_cases hr : -1000000 ≤ x + y ∧ x + y ≤ 1000000
                · rw [decide_eq_true hr] at hin
                  have HR2 : Hid (res = some (x + y)) := by show _ = _; rw [HRv.out]; unfold lid; rw [if_pos hr]
                  clear HRv hbn
                  go_wp2_with fail
                  go_quiet (fail)
                  go_wp2_with (go_at_call 22; refine (hin _).mono ?_; rintro e w2 ⟨rfl, rfl⟩)
                  go_ret2
                  rw [HR2.out]
                  exact ⟨rfl, below_drewN hbw _⟩
                · rw [decide_eq_false hr] at hin
                  have HR2 : Hid (res = none) := by show _ = _; rw [HRv.out]; unfold lid; rw [if_neg hr]
                  clear HRv hbn hr
                  go_wp2_with fail
                  go_quiet (fail)
                  go_wp2_with (go_at_call 22; refine (hin _).mono ?_; rintro e w2 ⟨rfl, rfl⟩)
                  go_ret2
                  rw [HR2.out]
                  exact ⟨rfl, below_drewN hbw _⟩
              · have hw : IntKind.i64.wrap (x - y) = x - y := wrE (by omega) (by omega)
                have hbn : bin 4 x y = x - y := rfl
                rw [hbn] at HRv
                have hin := fun w => in_any (x - y) (-1000000) 1000000 w
                by_cases hr : -1000000 ≤ x - y ∧ x - y ≤ 1000000
                · rw [decide_eq_true hr] at hin
                  have HR2 : Hid (res = some (x - y)) := by show _ = _; rw [HRv.out]; unfold lid; rw [if_pos hr]
                  clear HRv hbn
                  go_wp2_with fail
                  go_quiet (fail)
                  go_wp2_with (go_at_call 22; refine (hin _).mono ?_; rintro e w2 ⟨rfl, rfl⟩)
                  go_ret2
                  rw [HR2.out]
                  exact ⟨rfl, below_drewN hbw _⟩
                · rw [decide_eq_false hr] at hin
                  have HR2 : Hid (res = none) := by show _ = _; rw [HRv.out]; unfold lid; rw [if_neg hr]
                  clear HRv hbn hr
                  go_wp2_with fail
                  go_quiet (fail)
                  go_wp2_with (go_at_call 22; refine (hin _).mono ?_; rintro e w2 ⟨rfl, rfl⟩)
                  go_ret2
                  rw [HR2.out]
                  exact ⟨rfl, below_drewN hbw _⟩
              · have hw : IntKind.i64.wrap (x * y) = x * y := wrE (by omega) (by omega)
                have hbn : bin 5 x y = x * y := rfl
                rw [hbn] at HRv
                have hin := fun w => in_any (x * y) (-1000000) 1000000 w
                by_cases hr : -1000000 ≤ x * y ∧ x * y ≤ 1000000
                · rw [decide_eq_true hr] at hin
                  have HR2 : Hid (res = some (x * y)) := by show _ = _; rw [HRv.out]; unfold lid; rw [if_pos hr]
                  clear HRv hbn
                  go_wp2_with fail
                  go_quiet (fail)
                  go_wp2_with (go_at_call 22; refine (hin _).mono ?_; rintro e w2 ⟨rfl, rfl⟩)
                  go_ret2
                  rw [HR2.out]
                  exact ⟨rfl, below_drewN hbw _⟩
                · rw [decide_eq_false hr] at hin
                  have HR2 : Hid (res = none) := by show _ = _; rw [HRv.out]; unfold lid; rw [if_neg hr]
                  clear HRv hbn hr
                  go_wp2_with fail
                  go_quiet (fail)
                  go_wp2_with (go_at_call 22; refine (hin _).mono ?_; rintro e w2 ⟨rfl, rfl⟩)
                  go_ret2
                  rw [HR2.out]
                  exact ⟨rfl, below_drewN hbw _⟩
              · have hbn : bin 6 x y = if x = y then 1 else 0 := rfl
                rw [hbn] at HRv
                by_cases hc : x = y
                · have hin := fun w => in_any 1 (-1000000) 1000000 w
                  rw [decide_eq_true (by omega)] at hin
                  have HR2 : Hid (res = some 1) := by show _ = _; rw [HRv.out, if_pos hc]; rfl
                  clear HRv hbn
                  subst hc
                  go_wp2_with fail
                  go_quiet (fail)
                  go_wp2_with (go_at_call 22; refine (hin _).mono ?_; rintro e w2 ⟨rfl, rfl⟩)
                  go_ret2
                  rw [HR2.out]
                  exact ⟨rfl, below_drewN hbw _⟩
                · have hin := fun w => in_any 0 (-1000000) 1000000 w
                  rw [decide_eq_true (by omega)] at hin
                  have HR2 : Hid (res = some 0) := by show _ = _; rw [HRv.out, if_neg hc]; rfl
                  have hne : (x == y) = false := by simpa using hc
                  clear HRv hbn
                  go_wp2_with fail
                  go_quiet (fail)
                  go_wp2_with (go_at_call 22; refine (hin _).mono ?_; rintro e w2 ⟨rfl, rfl⟩)
                  go_ret2
                  rw [HR2.out]
                  exact ⟨rfl, below_drewN hbw _⟩
              · have hbn : bin 7 x y = if x < y then 1 else 0 := rfl
                rw [hbn] at HRv
                by_cases hc : x < y
                · have hin := fun w => in_any 1 (-1000000) 1000000 w
                  rw [decide_eq_true (by omega)] at hin
                  have HR2 : Hid (res = some 1) := by show _ = _; rw [HRv.out, if_pos hc]; rfl
                  clear HRv hbn
                  skip
                  go_wp2_with fail
                  go_quiet (fail)
                  go_wp2_with (go_at_call 22; refine (hin _).mono ?_; rintro e w2 ⟨rfl, rfl⟩)
                  go_ret2
                  rw [HR2.out]
                  exact ⟨rfl, below_drewN hbw _⟩
                · have hin := fun w => in_any 0 (-1000000) 1000000 w
                  rw [decide_eq_true (by omega)] at hin
                  have HR2 : Hid (res = some 0) := by show _ = _; rw [HRv.out, if_neg hc]; rfl
                  skip
                  clear HRv hbn
                  go_wp2_with fail
                  go_quiet (fail)
                  go_wp2_with (go_at_call 22; refine (hin _).mono ?_; rintro e w2 ⟨rfl, rfl⟩)
                  go_ret2
                  rw [HR2.out]
                  exact ⟨rfl, below_drewN hbw _⟩
              · have hxx := hxt rfl
                have hyy := hyt rfl
                rcases hxx with rfl | rfl <;> rcases hyy with rfl | rfl
                · have hin := fun w => in_any 0 (-1000000) 1000000 w
                  rw [decide_eq_true (by omega)] at hin
                  have HR2 : Hid (res = some 0) := by show _ = _; rw [HRv.out]; rfl
                  clear HRv
                  go_wp2_with (go_at_call 22; refine (hin _).mono ?_; rintro e w2 ⟨rfl, rfl⟩)
                  go_ret2
                  rw [HR2.out]
                  exact ⟨rfl, hbw⟩
                · have hin := fun w => in_any 0 (-1000000) 1000000 w
                  rw [decide_eq_true (by omega)] at hin
                  have HR2 : Hid (res = some 0) := by show _ = _; rw [HRv.out]; rfl
                  clear HRv
                  go_wp2_with (go_at_call 22; refine (hin _).mono ?_; rintro e w2 ⟨rfl, rfl⟩)
                  go_ret2
                  rw [HR2.out]
                  exact ⟨rfl, hbw⟩
                · have hin := fun w => in_any 0 (-1000000) 1000000 w
                  rw [decide_eq_true (by omega)] at hin
                  have HR2 : Hid (res = some 0) := by show _ = _; rw [HRv.out]; rfl
                  clear HRv
                  go_wp2_with (go_at_call 22; refine (hin _).mono ?_; rintro e w2 ⟨rfl, rfl⟩)
                  go_ret2
                  rw [HR2.out]
                  exact ⟨rfl, hbw⟩
                · have hin := fun w => in_any 1 (-1000000) 1000000 w
                  rw [decide_eq_true (by omega)] at hin
                  have HR2 : Hid (res = some 1) := by show _ = _; rw [HRv.out]; rfl
                  clear HRv
                  go_wp2_with (go_at_call 22; refine (hin _).mono ?_; rintro e w2 ⟨rfl, rfl⟩)
                  go_ret2
                  rw [HR2.out]
                  exact ⟨rfl, hbw⟩
              · have hxx := hxt rfl
                have hyy := hyt rfl
                rcases hxx with rfl | rfl <;> rcases hyy with rfl | rfl
                · have hin := fun w => in_any 0 (-1000000) 1000000 w
                  rw [decide_eq_true (by omega)] at hin
                  have HR2 : Hid (res = some 0) := by show _ = _; rw [HRv.out]; rfl
                  clear HRv
                  go_wp2_with (go_at_call 22; refine (hin _).mono ?_; rintro e w2 ⟨rfl, rfl⟩)
                  go_ret2
                  rw [HR2.out]
                  exact ⟨rfl, hbw⟩
                · have hin := fun w => in_any 1 (-1000000) 1000000 w
                  rw [decide_eq_true (by omega)] at hin
                  have HR2 : Hid (res = some 1) := by show _ = _; rw [HRv.out]; rfl
                  clear HRv
                  go_wp2_with (go_at_call 22; refine (hin _).mono ?_; rintro e w2 ⟨rfl, rfl⟩)
                  go_ret2
                  rw [HR2.out]
                  exact ⟨rfl, hbw⟩
                · have hin := fun w => in_any 1 (-1000000) 1000000 w
                  rw [decide_eq_true (by omega)] at hin
                  have HR2 : Hid (res = some 1) := by show _ = _; rw [HRv.out]; rfl
                  clear HRv
                  go_wp2_with (go_at_call 22; refine (hin _).mono ?_; rintro e w2 ⟨rfl, rfl⟩)
                  go_ret2
                  rw [HR2.out]
                  exact ⟨rfl, hbw⟩
                · have hin := fun w => in_any 1 (-1000000) 1000000 w
                  rw [decide_eq_true (by omega)] at hin
                  have HR2 : Hid (res = some 1) := by show _ = _; rw [HRv.out]; rfl
                  clear HRv
                  go_wp2_with (go_at_call 22; refine (hin _).mono ?_; rintro e w2 ⟨rfl, rfl⟩)
                  go_ret2
                  rw [HR2.out]
                  exact ⟨rfl, hbw⟩
end Go.Proofs.YtdlpmomohbdpgaaGreatDoor

/-
  The contract of the document's own Evaluated.
-/
namespace Go.Proofs.YtdlpmomohbdpgaaGreatDoor
open Go.ChangeShapes Go.WideShapes Go.ChangeAt Go.RowKit Go.Deep
open Terms Tm

set_option maxHeartbeats 1600000 in
/-- THE CONTRACT OF Evaluated. -/
theorem evaluated_any (v ev : Value) (l : List (Int × Int)) (env : List Int) (t : Tm) (w : World) (hV : OpsV w v l) (hE : IntsV w ev env) (ht : endsCode (l.map Prod.fst) = 0 → t.Wf ∧ t.ops = l) :
    Calls Tryz.prog 47 #[v, ev] w fun e w' => e = .returned (.tuple #[.int .i64 (evalN l t env), .int .i64 (evalC l t env)]) ∧ Below w.heap.size w w' := by
  have hch := exprChecked_any v l env.length t w hV ht
  obtain ⟨va, vc, rfl⟩ : ∃ ao cap, v = .slice ao l.length cap := by obtain ⟨ao, cap, h, _⟩ := hV; exact ⟨ao, cap, h⟩
  obtain ⟨eao, ecap, rfl⟩ : ∃ ao cap, ev = .slice ao env.length cap := by obtain ⟨ao, cap, h, _⟩ := hE; exact ⟨ao, cap, h⟩
  by_cases hx : xcode env.length l t = 0
  · obtain ⟨h0, h6, hops, hg, htt, h60⟩ := xcode_zero hx ht
    have HWK : Hid (EnvOk env → ∀ w1, Below w.heap.size w w1 → Calls Tryz.prog 68 #[.slice va l.length vc, .slice eao env.length ecap] w1 fun e w' => e = .returned (.tuple #[.int .i64 (wkN (t.eval env)), .int .i64 (wkC (t.eval env))]) ∧ Below w1.heap.size w1 w') :=
      fun hok w1 hb => worked_any eao ecap env.length env hok rfl _ t _ w1 (Nat.le_refl _) h60 hg htt (by rw [hops]; exact hV.below hb) (hE.below hb)
    have HE : Hid (IntsV w (.slice eao env.length ecap) env) := hE
    have HBad : Hid (envBad env = true → evalN l t env = 0 ∧ evalC l t env = 2) := fun h => by
      unfold evalN evalC
      simp [hx, h]
    have HOk : Hid (envBad env = false → evalN l t env = wkN (t.eval env) ∧ evalC l t env = wkC (t.eval env)) := fun h => by
      unfold evalN evalC wkN wkC
      simp only [hx, h]
      cases t.eval env <;> simp
    rw [hx] at hch
    generalize (decide ((0 : Int) = 0) && mkT t.kind) = bb at hch
    generalize evalN l t env = rn at *
    generalize evalC l t env = rc at *
    generalize wkN (t.eval env) = kn at *
    generalize wkC (t.eval env) = kc at *
    obtain ⟨n, hn⟩ : ∃ n, n = env.length := ⟨_, rfl⟩
    have HN : Hid (n = env.length) := hn
    rw [← hn] at h6 hch HWK HE ⊢
    generalize l.length = ln at *
    clear hV hE ht hx hops hg htt h60 h0 hn
    go_enter Tryz.func47, Tryz.ntmps47
    go_wp2_with (go_at_call 67; refine hch.mono ?_; rintro e w1 ⟨rfl, hb1⟩)
    go_loopw [8] (fun i wr => ∃ k : Nat, k ≤ n ∧ i = .int .i64 k ∧ Hid (∀ j, j < k → -1000000 ≤ env.getD j 0 ∧ env.getD j 0 ≤ 1000000) ∧ wr = w1) (fun i _ => n - (intOf i).toNat)
    case atStart => exact ⟨0, Nat.zero_le _, rfl, fun j hj => by omega, rfl⟩
    case round =>
      obtain ⟨k, hk, rfl, HJ, rfl⟩ := hrel
      by_cases hlt : k < n
      · obtain ⟨b, off, rfl, hblt, hc⟩ := IntsV.atE HE.out (i := k) (by rw [← HN.out]; exact hlt)
        have hc2 := (hb1.cell (p := ⟨b, off + k, none⟩) hblt).trans hc
        have HBk : Hid (¬ (-1000000 ≤ env.getD k 0 ∧ env.getD k 0 ≤ 1000000) → rn = 0 ∧ rc = 2) := fun h => HBad.out (envBad_at (by rw [← HN.out]; exact hlt) h)
        have HJ2 : Hid (-1000000 ≤ env.getD k 0 ∧ env.getD k 0 ≤ 1000000 → ∀ j, j < k + 1 → -1000000 ≤ env.getD j 0 ∧ env.getD j 0 ≤ 1000000) := fun h j hj => by
          by_cases hjk : j = k
          · subst hjk; exact h
          · exact HJ.out j (by omega)
        generalize env.getD k 0 = y at *
        have hin := fun w => in_any y (-1000000) 1000000 w
        clear hc HJ HWK hch
        by_cases hr : -1000000 ≤ y ∧ y ≤ 1000000
        · rw [decide_eq_true hr] at hin
          have HJ3 := (show Hid _ from HJ2.out hr)
          clear HJ2 HBk hr
          go_wp2_with (go_at_call 22; refine (hin _).mono ?_; rintro e w2 ⟨rfl, rfl⟩)
          go_roundw
          case rel => exact ⟨k + 1, hlt, by go_num, HJ3, by first | rfl | trivial⟩
          case measure => simp [intOf]; omega
        · rw [decide_eq_false hr] at hin
          have HR := (show Hid _ from HBk.out hr)
          clear HJ2 HBk hr
          go_wp2_with (go_at_call 22; refine (hin _).mono ?_; rintro e w2 ⟨rfl, rfl⟩)
          go_ret2
          rw [HR.out.1, HR.out.2]
          exact ⟨rfl, hb1⟩
      · have hok : ∀ i, i < env.length → -1000000 ≤ env.getD i 0 ∧ env.getD i 0 ≤ 1000000 := fun i hi => HJ.out i (by have := HN.out; omega)
        have HR := (show Hid _ from HOk.out (envBad_ok hok))
        have hwk := HWK.out hok _ hb1
        clear HJ HWK HOk HBad hok hch
        go_wp2_with (go_at_call 68; refine hwk.mono ?_; rintro e w2 ⟨rfl, hb2⟩)
        go_ret2
        rw [HR.out.1, HR.out.2]
        exact ⟨rfl, hb1.trans (hb2.mono hb1.size)⟩
  · have h1 : evalN l t env = 0 ∧ evalC l t env = xcode env.length l t := by
      unfold evalN evalC
      simp [hx]
    rw [h1.1, h1.2]
    generalize xcode env.length l t = x at *
    rw [show (decide (x = 0) && mkT t.kind) = false by simp [hx]] at hch
    generalize env.length = n at *
    generalize l.length = ln at *
    clear hV hE ht h1
    go_enter Tryz.func47, Tryz.ntmps47
    go_wp2_with (go_at_call 67; refine hch.mono ?_; rintro e w1 ⟨rfl, hb1⟩)
    go_ret2
    exact ⟨rfl, hb1⟩
end Go.Proofs.YtdlpmomohbdpgaaGreatDoor

/-
  The contract of the document's own ValuesOf.
-/
namespace Go.Proofs.YtdlpmomohbdpgaaGreatDoor
open Go.ChangeShapes Go.WideShapes Go.ChangeAt Go.RowKit Go.Deep
open Terms Tm

theorem ivals_snoc (f : Nat → Int) (k : Nat) : ivals ((List.range (k + 1)).map f) = ivals ((List.range k).map f) ++ [.int .i64 (f k)] := by
  simp [ivals, List.range_succ]

theorem rvalues_bad (va vr : Value) (m : Mo) (code : Int) (w : World) (hV : ModelV w va vr m) (h : mcode m ≠ 0) :
    Calls Tryz.prog 46 #[.agg #[va, vr], .int .i64 code] w fun e w' => e = .returned (.tuple #[.slice none 0 0, .int .i64 (mcode m)]) ∧ Below w.heap.size w w' := by
  have hA : ∀ o, Below w.heap.size w (w.alloc o) := fun o => (Below.refl _ _).alloc (Nat.le_refl _) o
  have hch := fun o => rcount_any va vr m (w.alloc o) (hV.below (hA o))
  rw [if_neg h] at hch
  obtain ⟨ao, cap, rfl⟩ := hV.1.shape
  obtain ⟨ro, rc, rfl⟩ := hV.2.shape
  generalize mcode m = x at *
  generalize m.vars.length = n at *
  generalize m.rules.length = rn at *
  clear hV
  go_enter Tryz.func46, Tryz.ntmps46
  go_wp2_with (go_at_call 20; refine (hch _).mono ?_; rintro e w1 ⟨rfl, hb1⟩)
  go_ret2
  exact ⟨rfl, (hA _).trans (hb1.mono (hA _).size)⟩
theorem rvalues_no (va vr : Value) (m : Mo) (code : Int) (w : World) (hV : ModelV w va vr m) (h : mcode m = 0) (hc : ¬ (0 ≤ code ∧ code < prodTo m.vars m.vars.length)) :
    Calls Tryz.prog 46 #[.agg #[va, vr], .int .i64 code] w fun e w' => e = .returned (.tuple #[.slice none 0 0, .int .i64 9]) ∧ Below w.heap.size w w' := by
  have hA : ∀ o, Below w.heap.size w (w.alloc o) := fun o => (Below.refl _ _).alloc (Nat.le_refl _) o
  have hch := fun o => rcount_any va vr m (w.alloc o) (hV.below (hA o))
  rw [if_pos h, h] at hch
  have hN := (mcode_vars h).prod (j := m.vars.length) (Nat.le_refl _)
  obtain ⟨ao, cap, rfl⟩ := hV.1.shape
  obtain ⟨ro, rc, rfl⟩ := hV.2.shape
  generalize prodTo m.vars m.vars.length = N at *
  generalize m.vars.length = n at *
  generalize m.rules.length = rn at *
  have hin := fun w => in_any code 0 (N - 1) w
  rw [decide_eq_false (show ¬ (0 ≤ code ∧ code ≤ N - 1) by omega)] at hin
  clear hV h hc
  go_enter Tryz.func46, Tryz.ntmps46
  go_wp2_with (first | (go_at_call 20; refine (hch _).mono ?_; rintro e w1 ⟨rfl, hb1⟩) | (go_at_call 22; refine (hin _).mono ?_; rintro e w2 ⟨rfl, rfl⟩))
  go_ret2
  exact ⟨rfl, (hA _).trans (hb1.mono (hA _).size)⟩

set_option maxHeartbeats 3200000 in
theorem rvalues_loop (va vr : Value) (m : Mo) (code : Int) (w : World) (hV : ModelV w va vr m) (h : mcode m = 0) (hc : 0 ≤ code ∧ code < prodTo m.vars m.vars.length) :
    Calls Tryz.prog 46 #[.agg #[va, vr], .int .i64 code] w fun e w' => ∃ v, e = .returned (.tuple #[v, .int .i64 0]) ∧ Below w.heap.size w w' ∧ IntsV w' v (valsL m.vars code) := by
  have hA : ∀ o, Below w.heap.size w (w.alloc o) := fun o => (Below.refl _ _).alloc (Nat.le_refl _) o
  have hch := fun o => rcount_any va vr m (w.alloc o) (hV.below (hA o))
  rw [if_pos h, h] at hch
  have hok := mcode_vars h
  have HOK : Hid (VarsOk m.vars) := hok
  have h6 := hok.1
  obtain ⟨ao, cap, rfl⟩ := hV.1.shape
  obtain ⟨ro, rc, rfl⟩ := hV.2.shape
  have hbv := (fun w1 (hb : Below w.heap.size w w1) a (ha : a ≤ m.vars.length) => behindVar_any (.slice ao m.vars.length cap) ro m.rules.length rc m.vars a w1 hok ha (hV.1.below hb))
  have HBV := (show Hid _ from hbv)
  have HV : Hid (VarsV w (.slice ao m.vars.length cap) m.vars) := hV.1
  have hN := hok.prod (j := m.vars.length) (Nat.le_refl _)
  have HS0 : Hid (segP m.vars 0 = prodTo m.vars m.vars.length) := segP_zero _
  obtain ⟨hc1, hc2⟩ := hc
  generalize prodTo m.vars m.vars.length = N at *
  obtain ⟨n, hn⟩ : ∃ n, n = m.vars.length := ⟨_, rfl⟩
  have HN : Hid (n = m.vars.length) := hn
  rw [← hn] at h6 hch HBV HV ⊢
  generalize m.rules.length = rn at *
  have hin := fun w => in_any code 0 (N - 1) w
  rw [decide_eq_true (show (0 ≤ code ∧ code ≤ N - 1) by omega)] at hin
  obtain ⟨i0, hi, hz0, hz1, hz2⟩ := info_parts infoInt
  have HL : Hid (valsL m.vars code = (List.range n).map (valAt m.vars code)) := by show _ = _; rw [HN.out]; rfl
  clear hV hn hok h hbv
  go_enter Tryz.func46, Tryz.ntmps46
  go_wp2_with (first | (go_at_call 20; refine (hch _).mono ?_; rintro e w1 ⟨rfl, hb1⟩) | (go_at_call 22; refine (hin _).mono ?_; rintro e w2 ⟨rfl, rfl⟩))
  have hb1' : Below (w.heap.size + 1) (w.alloc (.cells #[.slice ao n cap, .slice ro rn rc] 25)) w2 := hb1.mono (by simp)
  clear hch hin hb1
  go_loopw [1, 8, 9] (fun cd vv i wr => ∃ k : Nat, k ≤ n ∧ i = .int .i64 k ∧ cd = .int .i64 (code % segP m.vars k) ∧ Hid (wr.ownsRow (w.heap.size + 1) 3 1 vv k (ivals ((List.range k).map (valAt m.vars code)))) ∧ Below (w.heap.size + 1) (w.alloc (.cells #[.slice ao n cap, .slice ro rn rc] 25)) wr) (fun _ _ i _ => n - (intOf i).toNat)
  case atStart => exact ⟨0, Nat.zero_le _, rfl, by rw [HS0.out, Int.emod_eq_of_lt hc1 hc2], World.ownsRow_nil _ _ _ _, hb1'⟩
  case round =>
    obtain ⟨k, hk, rfl, rfl, HOwn, hbelB⟩ := hrel
    clear hb1'
    have hbel := (hA _).trans (hbelB.mono (Nat.le_succ _))
    have hszb : w.heap.size + 1 ≤ wr.heap.size := by have := hbelB.size; simp at this; omega
    have hlb : w.heap.size < wr.heap.size := by omega
    have cb := (hbelB.cell (p := ⟨w.heap.size, 0, none⟩) (by simp)).trans (show _ = some (.slice ao n cap) by simp [go_sem])
    have cb1 := (hbelB.cell (p := ⟨w.heap.size, 1, none⟩) (by simp)).trans (show _ = some (.slice ro rn rc) by simp [go_sem])
    by_cases hlt : k < n
    · obtain ⟨b, off, rfl, hblt, hat⟩ := HV.out.at (i := k) (by rw [← HN.out]; exact hlt)
      obtain ⟨c0, c1, c2, c3⟩ := hat.below hbel hblt
      have hvb := HOK.out.at (j := k) (by rw [← HN.out]; exact hlt)
      have hsg := segP_bounds HOK.out (i := k + 1) (by rw [← HN.out]; exact hlt)
      have hsg0 := segP_bounds HOK.out (i := k) (by rw [← HN.out]; exact hk)
      have HQ : Hid ((code % segP m.vars k) % segP m.vars (k + 1) = code % segP m.vars (k + 1)) := mod_step code (by rw [← HN.out]; exact hlt)
      have HVa : Hid ((m.vars.getD k vr0).lo + (code % segP m.vars k) / segP m.vars (k + 1) = valAt m.vars code k) := valAt_ref HOK.out code (by rw [← HN.out]; exact hlt)
      have HSn := (show Hid _ from ivals_snoc (valAt m.vars code) k)
      have hcd0 := Int.emod_nonneg code (show segP m.vars k ≠ 0 by omega)
      have hcd1 := Int.emod_lt_of_pos code (show 0 < segP m.vars k by omega)
      have hbvk := HBV.out wr hbel (k + 1) (by omega)
      rw [show ((k + 1 : Nat) : Int) - 1 = (k : Int) by omega] at hbvk
      generalize hcd : code % segP m.vars k = cd at *
      generalize segP m.vars k = sg0 at *
      obtain ⟨sg, hsge⟩ : ∃ sg, segP m.vars (k + 1) = sg := ⟨_, rfl⟩
      have HSG : Hid (segP m.vars (k + 1) = sg) := hsge
      rw [hsge] at hsg hbvk HQ HVa
      generalize m.vars.getD k vr0 = x at *
      obtain ⟨s, lo, hi', ini⟩ := x
      simp only [vspan] at c0 c1 c2 c3 HVa hvb
      obtain ⟨hv1, hv2, hv3, hv4, hv5, hv6, hv7⟩ := hvb
      clear hat hsge hcd
      have hi0 : (0 : Int) ≤ (k : Int) := Int.natCast_nonneg _
      have hi1 : (k : Int) < (n : Int) := by omega
      have hsz0 : ¬ sg = 0 := by omega
      have hsz1 : (sg == 0) = false := by rw [beq_eq_false_iff_ne]; omega
      have ht : cd.tmod sg = cd % sg := Int.tmod_eq_emod_of_nonneg hcd0
      have htd : cd.tdiv sg = cd / sg := Int.tdiv_eq_ediv_of_nonneg hcd0
      have hd0 := Int.ediv_nonneg hcd0 (show 0 ≤ sg by omega)
      have hd1 := Int.ediv_le_self sg hcd0
      have hw0 : IntKind.i64.wrap (cd / sg) = cd / sg := wr64 (by omega) (by omega)
      have hw1 : IntKind.i64.wrap (lo + cd / sg) = lo + cd / sg := wr64 (by omega) (by omega)
      have hbo : b < wr.heap.size := by omega
      have hown := HOwn.out
      go_wp2_with (go_at_call 45; refine hbvk.mono ?_; rintro e w3 ⟨rfl, hb3⟩)
      have hown3 : ∀ o, (w3.alloc o).ownsRow (w.heap.size + 1) 3 1 _ k _ := fun o => (owns_later hown hb3 (Nat.le_refl _)).alloc o
      have hnb := hown.lt
      generalize hxs : ivals ((List.range k).map (valAt m.vars code)) = xs at *
      have HXS : Hid (ivals ((List.range k).map (valAt m.vars code)) = xs) := hxs
      have hs3 : w.heap.size < w3.heap.size := Nat.lt_of_lt_of_le hlb hb3.size
      have hS0 : ∀ w', Below wr.heap.size wr w' → w'.cell? ⟨w.heap.size, 0, none⟩ = some (.slice (some ⟨b, off, none⟩) n cap) ∧ w'.cell? ⟨b, off + k * 4 + 1, none⟩ = some (.int .i64 lo) := fun w' hw' =>
        ⟨(hw'.cell (p := ⟨w.heap.size, 0, none⟩) hlb).trans cb, (hw'.cell (p := ⟨b, off + k * 4 + 1, none⟩) hbo).trans c1⟩
      have hSA : ∀ o, (w3.alloc o).cell? ⟨w.heap.size, 0, none⟩ = some (.slice (some ⟨b, off, none⟩) n cap) ∧ (w3.alloc o).cell? ⟨b, off + k * 4 + 1, none⟩ = some (.int .i64 lo) := fun o => hS0 _ (hb3.alloc hb3.size o)
      have hkb : (k + 1) * 8 ≤ 140737488355328 := by omega
      have h63 : k + 1 ≤ maxLen := by unfold maxLen; omega
      have hbase : ∀ o, w.heap.size + 1 ≤ (w3.alloc o).heap.size := fun o => by simp; omega
      clear hxs hown hbvk HOwn cb cb1 c0 c1 c2 c3
      go_region_held3 (fun w' => w'.cell? ⟨w.heap.size, 0, none⟩ = some (.slice (some ⟨b, off, none⟩) n cap) ∧ w'.cell? ⟨b, off + k * 4 + 1, none⟩ = some (.int .i64 lo))
        (first | exact hS0 _ hb3 | exact hS0 _ hb3.drew | exact hSA _ | exact hk4)
        (first
          | (refine step_append_lies _ (by rfl) (.tmp 34) (.tmp 45) 40 (by rfl) (w.heap.size + 1) 3 i0 _ 1 8 Tryz.underlying40 hi hz0 hz1 hz2 (by rfl) (by decide) _ k xs (by rfl) (hown3 _) ⟨w3.heap.size, 0, none⟩ 1 1 [.int .i64 (lo + cd / sg)] (by rfl) (by rfl) (cell_one_new _ _ _) (by intro u hu; simp at hu; subst hu; rfl) (by decide) h63 hkb (hbase _) (w3.heap.size + 1) (by simp) ?_; intro g cp w4 ho4 hg4 hat4 hl4; have hk4 : w4.cell? ⟨w.heap.size, 0, none⟩ = some (.slice (some ⟨b, off, none⟩) n cap) ∧ w4.cell? ⟨b, off + k * 4 + 1, none⟩ = some (.int .i64 lo) := ⟨(hg4.cell_far ⟨w.heap.size, 0, none⟩ (by simp; omega) (fun he => by have := (hnb _ he.symm).1; simp only at this; omega)).trans (hSA _).1, (hg4.cell_far ⟨b, off + k * 4 + 1, none⟩ (by simp; omega) (fun he => by have := (hnb _ he.symm).1; simp only at this; omega)).trans (hSA _).2⟩))
      have hbk : Below (w.heap.size + 1) (w.alloc (.cells #[.slice (some ⟨b, off, none⟩) n cap, .slice ro rn rc] 25)) w4 := by
        have h3 := hbelB.trans (hb3.mono hszb)
        first
          | exact Below.grown (Below.alloc h3.drew (by simp; omega) _) hg4 (by simp; omega) (fun q hq => (hnb q hq).1)
          | exact Below.grown (Below.alloc h3 (by omega) _) hg4 (by simp; omega) (fun q hq => (hnb q hq).1)
      have HO4 : Hid (w4.ownsRow (w.heap.size + 1) 3 1 (.slice (some ⟨g, 0, none⟩) (k + 1) cp) (k + 1) (ivals ((List.range (k + 1)).map (valAt m.vars code)))) := by
        show World.ownsRow _ _ _ _ _ _ _
        rw [HSn.out, ← HVa.out]
        exact ho4
      clear ho4 hg4 hown3 hk4
      go_wp2_with fail
      go_roundw
      case rel => exact ⟨k + 1, hlt, by go_num, by rw [HSG.out, ← HQ.out], HO4, hbk⟩
      case measure => simp [intOf]; omega
    · have hkn : k = n := by omega
      subst hkn
      have hown := HOwn.out
      obtain ⟨vo, vc, rfl⟩ := owns_slice hown
      have hI : IntsV wr (.slice vo k vc) (valsL m.vars code) := by
        rw [HL.out]
        exact intsV_of_owns (by simpa using hown)
      have HI := (show Hid _ from hI)
      clear hI hown
      go_wp2
      go_ret2
      exact ⟨_, rfl, hbel, HI.out⟩
/-- THE CONTRACT OF ValuesOf. -/
theorem rvalues_any (va vr : Value) (m : Mo) (code : Int) (w : World) (hV : ModelV w va vr m) :
    Calls Tryz.prog 46 #[.agg #[va, vr], .int .i64 code] w fun e w' => ∃ v, e = .returned (.tuple #[v, .int .i64 (wcode m code)]) ∧ Below w.heap.size w w' ∧ IntsV w' v (wvals m code) := by
  by_cases h : mcode m = 0
  · by_cases hc : 0 ≤ code ∧ code < prodTo m.vars m.vars.length
    · have h0 := wcode_yes h hc
      unfold wvals
      rw [h0, if_pos rfl]
      exact rvalues_loop va vr m code w hV h hc
    · have h0 := wcode_no h hc
      unfold wvals
      rw [h0, if_neg (by decide)]
      exact (rvalues_no va vr m code w hV h hc).mono fun e w' ⟨he, hb⟩ => ⟨_, he, hb, none, 0, rfl, fun h => absurd rfl h⟩
  · have h0 := wcode_bad (code := code) h
    unfold wvals
    rw [h0, if_neg h]
    exact (rvalues_bad va vr m code w hV h).mono fun e w' ⟨he, hb⟩ => ⟨_, he, hb, none, 0, rfl, fun h => absurd rfl h⟩
end Go.Proofs.YtdlpmomohbdpgaaGreatDoor
