/-
  Joined out of PFol, Reaches, PBeh0, PMeets, PBeh, PGo0, PGo, PBhd, PEx0, WClm, Words, WordM, ClaimM, ClaimM2, ClaimM3, ClaimM4, ClaimN, GrownF, KeepForm, ClaimL, ClaimS, StepReach, Joined, Joined2, in their order: a claim bears at most so many files.
-/
import Derived.Test.YtobopjjmhginlabGreatDoorLateC
import Derived.Deep.CutRange
import Derived.Deep.CutBlock
import Derived.Deep.DeepCutAuto
import Derived.Deep.RegionLaw
import Derived.Test.YtobopjjmhginlabGreatDoorLateA
import Derived.Test.YtobopjjmhginlabGreatDoorTrees
import Derived.Test.YtobopjjmhginlabGreatDoorGrown
import Derived.Test.YtobopjjmhginlabGreatDoorLateB
import Derived.Test.YtobopjjmhginlabGreatDoorMFirst
import Derived.Maps.OwnSet
import Derived.Test.YtobopjjmhginlabGreatDoorMem
import Derived.Test.YtobopjjmhginlabGreatDoorModelMem
namespace Go.Proofs.YtobopjjmhginlabGreatDoor
open Go.ChangeShapes Go.WideShapes Go.ChangeAt Go.RowKit Go.Deep Go.Maps
open Terms Tm
set_option maxHeartbeats 6400000
set_option maxRecDepth 20000
variable {Pz : Nat -> Prop}
theorem zeroAnswer (w : World) : (zeroValue 184).run Tryz.prog w = .ok (.agg #[.bool false]) w := by kernel_rfl
theorem folR_sign {l : List (Int × Int)} {x y y' : List Bool} {c d d' : Int} (hl : y.length = y'.length) (ht : tcode l y d = 0) (ht' : tcode l y' d' = 0) (e : signN l (tru l y d) = signN l (tru l y' d')) : folR l x c y d = folR l x c y' d' := by
  have hf : fcode l x c y d = fcode l x c y' d' := by unfold fcode; rw [hl, ht, ht']
  unfold folR; rw [hf]
  split
  · exact decide_eq_decide.2 (fol_sign e)
  · rfl
def FoPost (Pz : Nat -> Prop) (w0 w : World) (B bs bl n : Nat) (va vr pv fv : Value) (m : Mo) (ps : List (List (Int × Int))) (l : List (Int × Int)) (ho : Option Addr) (hc : Nat) (b : Bool) (e : Ending) (w' : World) : Prop :=
  e = .returned (.tuple #[.bool b, .int .i64 0]) /\ Sk bs bl w w' /\ Hid (SvOk Pz w0 w' B bs bl (n + 1) va vr pv fv m ps l ho hc)
def Li8 (w : World) (g : Nat) (y0 y1 y2 y3 y4 y5 : Bool) (c s : Int) : Prop := w.cell? ⟨g, 0, none⟩ = some (.bool y0) /\ w.cell? ⟨g, 1, none⟩ = some (.bool y1) /\ w.cell? ⟨g, 2, none⟩ = some (.bool y2) /\ w.cell? ⟨g, 3, none⟩ = some (.bool y3) /\ w.cell? ⟨g, 4, none⟩ = some (.bool y4) /\ w.cell? ⟨g, 5, none⟩ = some (.bool y5) /\ w.cell? ⟨g, 6, none⟩ = some (.int .i64 c) /\ w.cell? ⟨g, 7, none⟩ = some (.int .i64 s)
theorem Li8.of {w : World} {g : Nat} {y0 y1 y2 y3 y4 y5 : Bool} {c s : Int} {t : TypeId} (h : w.heap[g]? = some (.cells #[.bool y0, .bool y1, .bool y2, .bool y3, .bool y4, .bool y5, .int .i64 c, .int .i64 s] t (0, 0))) : Li8 w g y0 y1 y2 y3 y4 y5 c s := by
  refine ⟨?_, ?_, ?_, ?_, ?_, ?_, ?_, ?_⟩ <;> simp [World.cell?, h]
theorem Li8.later {w w' : World} {g : Nat} {y0 y1 y2 y3 y4 y5 : Bool} {c s : Int} (h : Li8 w g y0 y1 y2 y3 y4 y5 c s) (hg : g < w.heap.size) (hb : Below w.heap.size w w') : Li8 w' g y0 y1 y2 y3 y4 y5 c s := by
  obtain ⟨h0, h1, h2, h3, h4, h5, h6, h7⟩ := h; exact ⟨(hb.cell (p := ⟨g, 0, none⟩) hg).trans h0, (hb.cell (p := ⟨g, 1, none⟩) hg).trans h1, (hb.cell (p := ⟨g, 2, none⟩) hg).trans h2, (hb.cell (p := ⟨g, 3, none⟩) hg).trans h3, (hb.cell (p := ⟨g, 4, none⟩) hg).trans h4, (hb.cell (p := ⟨g, 5, none⟩) hg).trans h5, (hb.cell (p := ⟨g, 6, none⟩) hg).trans h6, (hb.cell (p := ⟨g, 7, none⟩) hg).trans h7⟩
theorem follows_any (w0 w : World) (B bs bl n : Nat) (va vr pv fv : Value) (m : Mo) (ps : List (List (Int × Int))) (l : List (Int × Int)) (ho : Option Addr) (hc : Nat) (x y : List Bool) (c d : Nat) (lo no so lo2 no2 so2 : Option Addr) (lc nn nc sc lc2 nn2 nc2 sc2 : Nat)
    (hB : 0 < w0.heap.size) (hT : TabAt w0) (hV : TaskV w0 va vr pv fv m ps l) (hk : tkcode m ps l = 0) (hS : SvOk Pz w0 w B bs bl n va vr pv fv m ps l ho hc) (hn : n < 1000000000000)
    (hx : BoolsV w (.slice lo ps.length lc) x) (hy : BoolsV w (.slice lo2 ps.length lc2) y) (hsg : IntsV w (.slice so2 (2 ^ (aheadL l).length) sc2) (sgL l y)) (hxl : x.length = ps.length) (hyl : y.length = ps.length) (hcN : c < 2 ^ (aheadL l).length) (hdN : d < 2 ^ (aheadL l).length) :
    Calls Tryz.prog 65 #[.pointer (some ⟨B, 0, none⟩), .agg #[.slice lo ps.length lc, .slice no nn nc, .slice so (2 ^ (aheadL l).length) sc], .int .i64 (c : Int), .agg #[.slice lo2 ps.length lc2, .slice no2 nn2 nc2, .slice so2 (2 ^ (aheadL l).length) sc2], .int .i64 (d : Int)] w (FoPost Pz w0 w B bs bl n va vr pv fv m ps l ho hc (folR l x (c : Int) y (d : Int))) := by
  obtain ⟨hp0, hl0⟩ := tk_zero hk; obtain ⟨_, hps6⟩ := pcode_m hp0; obtain ⟨_, _, hz, _, h6⟩ := lcode_zero hl0; obtain ⟨fo, fc, rfl, _⟩ := id hV.fo; have hN64 : 2 ^ (aheadL l).length <= 64 := Nat.pow_le_pow_right (show 0 < 2 by decide) h6
  have htc : ∀ (z : List Bool) (k : Nat), z.length = ps.length -> k < 2 ^ (aheadL l).length -> tcode l z (k : Int) = 0 := fun z k hz1 hk1 => by
    refine tcode_ok (by rw [hz1]; exact hl0) fun hno => ?_
    unfold ClaimNo at hno; have : ((2 ^ (aheadL l).length : Nat) : Int) = (2 : Int) ^ (aheadL l).length := by push_cast; rfl
    rcases hno with hno | hno
    · omega
    · rw [<- this] at hno; omega
  obtain ⟨g0, hg0, hgl⟩ := hS.li
  obtain ⟨sb, soff, rfl, hsb, hsat⟩ : ∃ sb soff, so2 = some ⟨sb, soff, none⟩ /\ sb < w.heap.size /\ w.cell? ⟨sb, soff + d, none⟩ = some (.int .i64 (sgAt l y d)) := by
    obtain ⟨ao, cap, e1, h1⟩ := hsg
    injection e1 with e1 _ _
    subst e1; obtain ⟨b, off, rfl, hb, hat⟩ := h1 (by intro e; have := congrArg List.length e; rw [sgL_len] at this; simp at this)
    refine ⟨b, off, rfl, hb, ?_⟩
    have := hat d (by rw [sgL_len]; exact hdN)
    rw [this, sgL_at hdN]
  obtain ⟨sg, hsgd⟩ : ∃ sg, sgAt l y d = sg := ⟨_, rfl⟩
  have hsgb : -9223372036854775808 <= sg /\ sg <= 9223372036854775807 := by
    obtain ⟨b0, b1⟩ := signTo_bounds l (tru l y (d : Int)) (aheadL l).length; have e : sg = signTo l (tru l y (d : Int)) (aheadL l).length := by rw [<- hsgd]; rfl
    have : ((2 ^ (aheadL l).length : Nat) : Int) = (2 : Int) ^ (aheadL l).length := by push_cast; rfl
    rw [<- this] at b1; omega
  rw [hsgd] at hsat
  obtain ⟨W3, hW3⟩ : ∃ W3, W3 = ((w.alloc (.cells #[.slice lo ps.length lc, .slice no nn nc, .slice so (2 ^ (aheadL l).length) sc] 140)).alloc (.cells #[.slice lo2 ps.length lc2, .slice no2 nn2 nc2, .slice (some ⟨sb, soff, none⟩) (2 ^ (aheadL l).length) sc2] 140)).alloc (.cells #[.bool false, .bool false, .bool false, .bool false, .bool false, .bool false, .int .i64 (c : Int), .int .i64 sg] 182) := ⟨_, rfl⟩
  have hb3 : Below w.heap.size w W3 := by rw [hW3]; exact (((Below.refl _ _).alloc (Nat.le_refl _) _).alloc (by simp) _).alloc (by simp; omega) _
  have hz3 : W3.heap.size = w.heap.size + 3 := by rw [hW3]; simp
  have hg3 : W3.heap[w.heap.size + 2]? = some (.cells #[.bool false, .bool false, .bool false, .bool false, .bool false, .bool false, .int .i64 (c : Int), .int .i64 sg] 182 (0, 0)) := by
    rw [hW3]
    have := (MapKept.heap_alloc ((w.alloc (.cells #[.slice lo ps.length lc, .slice no nn nc, .slice so (2 ^ (aheadL l).length) sc] 140)).alloc (.cells #[.slice lo2 ps.length lc2, .slice no2 nn2 nc2, .slice (some ⟨sb, soff, none⟩) (2 ^ (aheadL l).length) sc2] 140)) (.cells #[.bool false, .bool false, .bool false, .bool false, .bool false, .bool false, .int .i64 (c : Int), .int .i64 sg] 182)).1
    simpa using this
  obtain ⟨w4, y0, y1, y2, y3, y4, y5, hcopy, hsix, hg4, hgr4⟩ := copy_link W3.drew (w.heap.size + 2) lo ps.length lc x (c : Int) sg 182 3 (hx.below hb3.drew) hxl hps6 hg3
  have hb4 : Below w.heap.size w w4 := ⟨hgr4.os.trans hb3.os, hgr4.tape.trans hb3.tape, hgr4.output.trans hb3.output, Nat.le_trans hb3.size hgr4.size, fun i hi => (hgr4.block i (Nat.lt_of_lt_of_le hi hb3.size) (by intro e; injection e with e; omega)).trans (hb3.block i hi)⟩
  have hli4 := Li8.of hg4; have hlv : linkV x (c : Int) sg = .agg #[.bool y0, .bool y1, .bool y2, .bool y3, .bool y4, .bool y5, .int .i64 (c : Int), .int .i64 sg] := by unfold linkV; rw [hsix]; rfl
  obtain ⟨kl, hkl⟩ := keyLink y0 y1 y2 y3 y4 y5 (c := (c : Int)) (s := sg) (by omega) hsgb
  have hz4 : w.heap.size + 3 <= w4.heap.size := by have := hgr4.size; have e : W3.drew.heap.size = W3.heap.size := rfl; omega
  have hk4 : Below (w.heap.size + 2) W3 w4 := ⟨hgr4.os, hgr4.tape, hgr4.output, hgr4.size, fun i hi => hgr4.block i (by show i < W3.heap.size; omega) (by intro e; injection e with e; omega)⟩
  have HBx : Hid (∀ w', Below (w.heap.size + 2) W3 w' -> w'.cell? ⟨w.heap.size, 0, none⟩ = some (.slice lo ps.length lc) /\ w'.cell? ⟨w.heap.size + 1, 0, none⟩ = some (.slice lo2 ps.length lc2)) := fun w' h => by
    refine ⟨(h.cell (p := ⟨w.heap.size, 0, none⟩) (by show w.heap.size < _; omega)).trans ?_, (h.cell (p := ⟨w.heap.size + 1, 0, none⟩) (by show w.heap.size + 1 < _; omega)).trans ?_⟩ <;> (rw [hW3]; simp [go_sem])
  have hs2 : ∀ o1 o2, ((w.alloc o1).alloc o2).cell? ⟨sb, soff + d, none⟩ = some (.int .i64 sg) := fun o1 o2 => (Below.cell (p := ⟨sb, soff + d, none⟩) (((Below.refl w.heap.size w).alloc (Nat.le_refl _) o1).alloc (by simp) o2) hsb).trans hsat
  have HLk : Hid (∀ w', w'.heap[bl]? = w.heap[bl]? -> (Instr.lookup 75 (.map (some bl)) (.agg #[.bool y0, .bool y1, .bool y2, .bool y3, .bool y4, .bool y5, .int .i64 (c : Int), .int .i64 sg]) true).run Tryz.prog w' = .ok (.tuple #[(g0 kl).getD (.agg #[.bool false]), .bool (g0 kl).isSome]) w') := fun w' h => (hg0.kept h).look keyedLink Tryz.underlying75 (zeroAnswer _) hkl
  have HS6 : Hid (∀ w', Below w.heap.size w w' -> w'.cell? ⟨B, 3, none⟩ = some (.slice fo l.length fc) /\ w'.cell? ⟨B, 6, none⟩ = some (.map (some bl))) := fun w' h => ⟨(hS.box.later h).c3, (hS.box.later h).c6⟩
  have hbl : bl < w.heap.size := hg0.lt; have hdi : (d : Int) < ((2 ^ (aheadL l).length : Nat) : Int) := by omega
  have HLi : Hid (∀ w', Below w4.heap.size w4 w' -> Li8 w' (w.heap.size + 1 + 1) y0 y1 y2 y3 y4 y5 (c : Int) sg) := fun w' h => hli4.later (by omega) h
  unfold FoPost
  cases hgk : g0 kl with
  | some v =>
    obtain ⟨x', c', sg', b, hx'l, hkl', rfl, hall⟩ := hgl kl v hgk; have hinj := keyedLink.inj hkl' (hlv ▸ hkl); obtain ⟨rfl, rfl, rfl⟩ := linkV_inj (hx'l.trans hxl.symm) hinj; have hbv : folR l x' (c : Int) y (d : Int) = b := hall y (d : Int) hyl (htc y d hyl hdN) (by rw [<- hsgd]; rfl)
    rw [hbv]; have HLk2 : Hid (∀ w', w'.heap[bl]? = w.heap[bl]? -> (Instr.lookup 75 (.map (some bl)) (.agg #[.bool y0, .bool y1, .bool y2, .bool y3, .bool y4, .bool y5, .int .i64 (c : Int), .int .i64 sg']) true).run Tryz.prog w' = .ok (.tuple #[.agg #[.bool b], .bool true]) w') := fun w' h => by have := HLk.out w' h; rw [hgk] at this; exact this
    have HFin : Hid (∀ w', Below w.heap.size w w' -> Sk bs bl w w' /\ SvOk Pz w0 w' B bs bl (n + 1) va vr pv (.slice fo l.length fc) m ps l ho hc) := fun w' h => ⟨Sk.of h, (hS.below h).mono (Nat.le_succ _)⟩
    generalize ps.length = pn at *; generalize 2 ^ (aheadL l).length = N at *; generalize l.length = fn at *; clear HLk hS hgl hg0 hall hbv hT hV hx hy hsg htc hli4 hkl' hlv hkl hinj hgr4 hg3 hsix
    go_enter Tryz.func65, Tryz.ntmps65
    go_wp2_with fail
    rw [<- hW3]; obtain ⟨u0, u1⟩ := HBx.out W3 (Below.refl _ _); obtain ⟨v0, v1⟩ := HBx.out w4 hk4; clear hW3
    go_region_held3 (fun w' => w'.cell? ⟨w.heap.size, 0, none⟩ = some (.slice lo pn lc))
      (first | exact u0 | exact v0)
      (fail)
    have hbl4 : w4.heap[bl]? = w.heap[bl]? := hb4.block bl hbl; obtain ⟨_, q6⟩ := HS6.out w4 hb4; obtain ⟨i0, i1, i2, i3, i4, i5, i6, i7⟩ := HLi.out w4 (Below.refl _ _); clear u0 u1 v0 v1 hs2 HBx
    go_wp2_with fail
    go_cut [13, 14] (fun u13 u14 w' => ∃ g13, u13 = .pointer (some ⟨g13, 0, none⟩) /\ u14 = .bool true /\ Below w4.heap.size w4 w' /\ w'.cell? ⟨g13, 0, none⟩ = some (.bool b))
    case first =>
      have hal : Below w4.heap.size w4 (w4.alloc (.cells #[.bool false] 184)) := (Below.refl _ _).alloc (Nat.le_refl _) _; have hlA := HLk2.out w4.drew hbl4; have hlB := HLk2.out (w4.alloc (.cells #[.bool false] 184)).drew ((hal.block bl (Nat.lt_of_lt_of_le hbl hb4.size)).trans hbl4); obtain ⟨_, q6'⟩ := HS6.out _ (hb4.trans (hal.mono hb4.size))
      obtain ⟨j0, j1, j2, j3, j4, j5, j6, j7⟩ := HLi.out _ hal
      go_region_law (fail)
      all_goals go_wp2_with fail
      all_goals go_meet
      all_goals exact ⟨_, rfl, rfl, ((Below.refl _ _).alloc (Nat.le_refl _) _).drew, by simp [go_sem]⟩
    case rest =>
      obtain ⟨g13, rfl, rfl, hb5, d0⟩ := hcut; have hbF := hb4.trans (hb5.mono hb4.size)
      go_wp2_with fail
      go_ret2
      obtain ⟨r1, r2⟩ := HFin.out _ hbF; exact ⟨rfl, r1, r2⟩
  | none =>
    have HLk2 : Hid (∀ w', w'.heap[bl]? = w.heap[bl]? -> (Instr.lookup 75 (.map (some bl)) (.agg #[.bool y0, .bool y1, .bool y2, .bool y3, .bool y4, .bool y5, .int .i64 (c : Int), .int .i64 sg]) true).run Tryz.prog w' = .ok (.tuple #[.agg #[.bool false], .bool false]) w') := fun w' h => by have := HLk.out w' h; rw [hgk] at this; exact this
    have hfc : fcode l x (c : Int) y (d : Int) = 0 := by
      unfold fcode; rw [if_neg (by rw [hxl, hyl]; simp), if_neg (by rw [htc x c hxl hcN]; simp)]
      exact htc y d hyl hdN
    have HFo : Hid (∀ w', Below w.heap.size w w' -> Calls Tryz.prog 101 #[.slice fo l.length fc, .slice lo ps.length lc, .int .i64 (c : Int), .slice lo2 ps.length lc2, .int .i64 (d : Int)] w' fun e w'' => e = .returned (.tuple #[.bool (folR l x (c : Int) y (d : Int)), .int .i64 0]) /\ Below w'.heap.size w' w'') := fun w' h => by
      have h0 := hS.bel.trans (h.mono hS.bel.size); have := lfol_any _ _ _ l x y (c : Int) (d : Int) w' (Nat.lt_of_lt_of_le hB h0.size) (hT.below h0 hB) (hV.fo.below h0) (hx.below h) (hy.below h); rw [hfc] at this; exact this
    have hLO : LinkOk ps l kl (.agg #[.bool (folR l x (c : Int) y (d : Int))]) := ⟨x, (c : Int), sg, _, hxl, hlv ▸ hkl, rfl, fun y' d' h1 h2 h3 => folR_sign (h1.trans hyl.symm) h2 (htc y d hyl hdN) (h3.trans (by rw [<- hsgd]; rfl))⟩
    have HPut : Hid (∀ w', Below w.heap.size w w' -> ∃ w'', (Instr.mapUpdate 75 (.map (some bl)) (.agg #[.bool y0, .bool y1, .bool y2, .bool y3, .bool y4, .bool y5, .int .i64 (c : Int), .int .i64 sg]) (.agg #[.bool (folR l x (c : Int) y (d : Int))])).run Tryz.prog w'.drew = .ok () w'' /\ w'.grownBy w'' (some bl) /\ Sk bs bl w w'' /\ SvOk Pz w0 w'' B bs bl (n + 1) va vr pv (.slice fo l.length fc) m ps l ho hc) := fun w' h => by
      have hm1 : MapIs w'.drew 182 bl n g0 := hg0.kept (h.block _ hg0.lt); obtain ⟨w'', h1, h2, h3⟩ := hm1.put keyedLink Tryz.underlying75 (by unfold maxLen; omega) (val := .agg #[.bool (folR l x (c : Int) y (d : Int))]) hkl (keyedLink.key hkl)
      have h4 : w'.grownBy w'' (some bl) := ⟨h3.os, h3.tape, h3.output, h3.size, h3.block⟩; exact ⟨w'', h1, h4, (Sk.of h).trans (Sk.grown h4 (.inr rfl)), (hS.below h).putL h4 hgl h2 hLO⟩
    generalize folR l x (c : Int) y (d : Int) = b at *; generalize ps.length = pn at *; generalize 2 ^ (aheadL l).length = N at *; generalize l.length = fn at *; clear HLk hS hgl hg0 hT hV hx hy hsg htc hli4 hlv hkl hgr4 hg3 hsix hLO hfc
    go_enter Tryz.func65, Tryz.ntmps65
    go_wp2_with fail
    rw [<- hW3]; obtain ⟨u0, u1⟩ := HBx.out W3 (Below.refl _ _); obtain ⟨v0, v1⟩ := HBx.out w4 hk4; clear hW3
    go_region_held3 (fun w' => w'.cell? ⟨w.heap.size, 0, none⟩ = some (.slice lo pn lc))
      (first | exact u0 | exact v0)
      (fail)
    have hbl4 : w4.heap[bl]? = w.heap[bl]? := hb4.block bl hbl; obtain ⟨_, q6⟩ := HS6.out w4 hb4; obtain ⟨i0, i1, i2, i3, i4, i5, i6, i7⟩ := HLi.out w4 (Below.refl _ _); clear u0 u1 v0 v1 hs2
    go_wp2_with fail
    go_cut [13, 14] (fun u13 u14 w' => ∃ g13, u13 = .pointer (some ⟨g13, 0, none⟩) /\ u14 = .bool false /\ Below w4.heap.size w4 w')
    case first =>
      have hal : Below w4.heap.size w4 (w4.alloc (.cells #[.bool false] 184)) := (Below.refl _ _).alloc (Nat.le_refl _) _; have hlA := HLk2.out w4.drew hbl4; have hlB := HLk2.out (w4.alloc (.cells #[.bool false] 184)).drew ((hal.block bl (Nat.lt_of_lt_of_le hbl hb4.size)).trans hbl4); obtain ⟨_, q6'⟩ := HS6.out _ (hb4.trans (hal.mono hb4.size))
      obtain ⟨j0, j1, j2, j3, j4, j5, j6, j7⟩ := HLi.out _ hal
      go_region_law (fail)
      all_goals go_wp2_with fail
      all_goals go_meet
      all_goals exact ⟨_, rfl, rfl, ((Below.refl _ _).alloc (Nat.le_refl _) _).drew⟩
    case rest =>
      obtain ⟨g13, rfl, rfl, hb5⟩ := hcut; have hbF := hb4.trans (hb5.mono hb4.size)
      have HSF : Hid (∀ w', Below wc.heap.size wc w' -> w'.cell? ⟨B, 3, none⟩ = some (.slice fo fn fc) /\ w'.cell? ⟨w.heap.size, 0, none⟩ = some (.slice lo pn lc) /\ w'.cell? ⟨w.heap.size + 1, 0, none⟩ = some (.slice lo2 pn lc2)) := fun w' h => by
        have h1 := hb5.trans (h.mono hb5.size); obtain ⟨e1, e2⟩ := HBx.out w' (hk4.trans (h1.mono (by omega)))
        exact ⟨(HS6.out w' (hbF.trans (h.mono hbF.size))).1, e1, e2⟩
      have hfo := HFo.out _ hbF.drew; have hB0 : Below wc.heap.size wc wc := Below.refl _ _
      go_wp2_with fail
      go_region_held3 (fun w' => w'.cell? ⟨B, 3, none⟩ = some (.slice fo fn fc) /\ w'.cell? ⟨w.heap.size, 0, none⟩ = some (.slice lo pn lc) /\ w'.cell? ⟨w.heap.size + 1, 0, none⟩ = some (.slice lo2 pn lc2))
        (first | exact HSF.out _ hb6 | exact HSF.out _ hB0.drew | exact HSF.out _ hB0)
        (first
          | (go_at_call 101; refine hfo.mono ?_; rintro e w6 ⟨rfl, hb6'⟩; have hb6 := hB0.drew.trans (hb6'.mono hB0.drew.size)))
      have hbG := hbF.trans (hb6.mono hbF.size); obtain ⟨w7, hput, hg7, r1, r2⟩ := HPut.out _ hbG; obtain ⟨_, z6⟩ := HS6.out _ hbG; obtain ⟨k0, k1, k2, k3, k4, k5, k6, k7⟩ := HLi.out w6 (hb5.trans (hb6.mono hb5.size)); have HR : Hid (Sk bs bl w w7 /\ SvOk Pz w0 w7 B bs bl (n + 1) va vr pv (.slice fo fn fc) m ps l ho hc) := ⟨r1, r2⟩; clear r1 r2 hg7 HPut
      go_wp2_with fail
      go_region_law (fail)
      all_goals go_wp2_with fail
      all_goals go_ret2
      all_goals exact ⟨rfl, HR.out.1, HR.out.2⟩
end Go.Proofs.YtobopjjmhginlabGreatDoor
namespace Go.Proofs.YtobopjjmhginlabGreatDoor
open Terms Tm
set_option maxHeartbeats 6400000
set_option maxRecDepth 20000
inductive RSt (nx : Int -> List Int) (first : Int) : Int -> Prop where
  | first : RSt nx first first
  | next {x y : Int} : RSt nx first x -> y ∈ nx x -> RSt nx first y
open Classical in
noncomputable def reachN (nx : Int -> List Int) (first : Int) (N : Nat) : List Int := ((List.range N).filter (fun j : Nat => decide (RSt nx first (j : Int)))).map (fun j : Nat => (j : Int))
theorem reachN_rise (nx : Int -> List Int) (first : Int) (N : Nat) : Rise (reachN nx first N) := by
  unfold reachN Rise; rw [List.pairwise_map]; refine List.Pairwise.imp (fun {a b} h => ?_) (List.Pairwise.filter _ List.pairwise_lt_range)
  omega
theorem reachN_mem (nx : Int -> List Int) (first : Int) (N : Nat) (x : Int) : x ∈ reachN nx first N ↔ (0 <= x /\ x < N) /\ RSt nx first x := by
  unfold reachN; simp only [List.mem_map, List.mem_filter, List.mem_range, decide_eq_true_eq]
  constructor
  · rintro ⟨j, ⟨h1, h2⟩, rfl⟩; exact ⟨⟨by omega, by omega⟩, h2⟩
  · rintro ⟨⟨h0, h1⟩, h2⟩; exact ⟨x.toNat, ⟨by omega, by rw [Int.toNat_of_nonneg h0]; exact h2⟩, by omega⟩
theorem RSt.in {nx : Int -> List Int} {first : Int} {N : Nat} (hf : 0 <= first /\ first < N) (hn : ∀ x y : Int, 0 <= x /\ x < N -> y ∈ nx x -> 0 <= y /\ y < N) {x : Int} (h : RSt nx first x) : 0 <= x /\ x < N := by
  induction h with
  | first => exact hf
  | next _ hy ih => exact hn _ _ ih hy
theorem sorted_rise {l : List Int} (h : l.Nodup) : Rise (l.mergeSort leB) := by
  have hp : (l.mergeSort leB).Pairwise (fun x y => leB x y = true) := List.pairwise_mergeSort (le := leB) (by intro a b c; simp only [leB, decide_eq_true_eq]; omega) (by intro a b; simp only [leB, Bool.or_eq_true, decide_eq_true_eq]; omega) l
  have hn : (l.mergeSort leB).Nodup := (List.mergeSort_perm l leB).nodup_iff.2 h; refine (hp.and hn).imp fun {a b} hab => ?_
  have h1 : a <= b := by simpa [leB] using hab.1
  have h2 : a ≠ b := hab.2; omega
theorem closed_reach {nx : Int -> List Int} {first : Int} {l : List Int} (hf : first ∈ l) (hr : ∀ x ∈ l, RSt nx first x) (hc : ∀ x ∈ l, ∀ y ∈ nx x, y ∈ l) (x : Int) : x ∈ l ↔ RSt nx first x := by
  refine ⟨hr x, fun h => ?_⟩
  induction h with
  | first => exact hf
  | next _ hy ih => exact hc _ ih _ hy
theorem rise_length : ∀ {l : List Int} {lo N : Int}, Rise l -> (∀ x ∈ l, lo <= x /\ x < N) -> lo <= N -> (l.length : Int) <= N - lo
  | [], lo, N, _, _, h => by simp; omega
  | x :: l, lo, N, h1, h2, _ => by
    obtain ⟨hx, t⟩ := List.pairwise_cons.1 h1; have h3 := h2 x (by simp)
    have := rise_length (lo := x + 1) (N := N) t (fun y hy => ⟨by have := hx y hy; omega, (h2 y (by simp [hy])).2⟩) (by omega)
    simp only [List.length_cons]; omega
theorem nodup_length {l : List Int} {N : Nat} (h : l.Nodup) (hi : ∀ x ∈ l, 0 <= x /\ x < N) : l.length <= N := by
  have h1 := rise_length (lo := 0) (N := N) (sorted_rise h) (fun x hx => hi x ((List.mergeSort_perm l leB).mem_iff.1 hx)) (by omega)
  rw [List.length_mergeSort] at h1; omega
end Go.Proofs.YtobopjjmhginlabGreatDoor
namespace Go.Proofs.YtobopjjmhginlabGreatDoor
open Go.ChangeShapes Go.WideShapes Go.ChangeAt Go.RowKit Go.Deep Go.Maps
open Terms Tm
set_option maxHeartbeats 6400000
set_option maxRecDepth 20000
noncomputable def foTo (l : List (Int × Int)) (x : List Bool) (c : Int) (y : List Bool) (st : Int) : Nat -> List (Int × Int)
  | 0 => []
  | k + 1 => if folR l x c y (k : Int) = true then foTo l x c y st k ++ [(st, (k : Int))] else foTo l x c y st k
theorem foTo_len (l : List (Int × Int)) (x : List Bool) (c : Int) (y : List Bool) (st : Int) : ∀ k, (foTo l x c y st k).length <= k
  | 0 => Nat.le_refl _
  | k + 1 => by
    rw [foTo]; have := foTo_len l x c y st k
    split
    · rw [List.length_append, List.length_singleton]; omega
    · omega
noncomputable def behTo (m : Mo) (ps : List (List (Int × Int))) (l : List (Int × Int)) (code c : Int) : Nat -> List (Int × Int)
  | 0 => []
  | i + 1 => behTo m ps l code c i ++ foTo l (letL m ps code) c (letL m ps ((nextL m code).getD i 0)) ((nextL m code).getD i 0) (2 ^ (aheadL l).length)
noncomputable def behL (m : Mo) (ps : List (List (Int × Int))) (l : List (Int × Int)) (code c : Int) : List (Int × Int) := behTo m ps l code c (nextL m code).length
theorem behTo_len {m : Mo} {ps : List (List (Int × Int))} {l : List (Int × Int)} (h : 2 ^ (aheadL l).length <= 64) (code c : Int) : ∀ i, (behTo m ps l code c i).length <= i * 64
  | 0 => Nat.le_refl _
  | i + 1 => by
    rw [behTo, List.length_append]; have := behTo_len (m := m) (ps := ps) h code c i; have := foTo_len l (letL m ps code) c (letL m ps ((nextL m code).getD i 0)) ((nextL m code).getD i 0) (2 ^ (aheadL l).length); omega
theorem nextL_st {m : Mo} (hm : mcode m = 0) {x : Int} (hx : 0 <= x /\ x < prodTo m.vars m.vars.length) {y : Int} (hy : y ∈ nextL m x) : 0 <= y /\ y < prodTo m.vars m.vars.length := by
  have h1 := ((upL_spec _).2 y).1 hy; unfold rawL at h1
  split at h1
  · simp at h1; subst h1; exact hx
  · obtain ⟨j, _, e⟩ := (rawTo_mem (Nat.le_refl _) y).1 h1
    exact ruleDo_state (mcode_vars hm) e
theorem nextL_len {m : Mo} (hm : mcode m = 0) {x : Int} (hx : 0 <= x /\ x < prodTo m.vars m.vars.length) : (nextL m x).length <= 4096 := by
  have h1 : (nextL m x).Nodup := by
    have := (upL_spec (rawL m x)).1; exact List.Pairwise.imp (fun {a b} h => by omega) this
  have h2 := (mcode_vars hm).prod (Nat.le_refl m.vars.length); have := nodup_length (N := (prodTo m.vars m.vars.length).toNat) h1 (fun y hy => by have := nextL_st hm hx hy; omega)
  omega
theorem Sk.after {bs bl : Nat} {wb w w' : World} (h : Sk bs bl wb w) (hb : Below wb.heap.size w w') : Sk bs bl wb w' :=
  ⟨hb.os.trans h.os, hb.tape.trans h.tape, hb.output.trans h.output, Nat.le_trans h.size hb.size, fun i hi h1 h2 => (hb.block i hi).trans (h.block i hi h1 h2)⟩
def Bx3 (w : World) (b : Nat) (x y z : Value) : Prop := (w.cell? ⟨b, 0, none⟩ = some x /\ w.cell? ⟨b, 1, none⟩ = some y /\ w.cell? ⟨b, 2, none⟩ = some z) /\ RowTy w (.slice (some ⟨b, 0, none⟩) 1 1) 140
theorem Bx3.new (w : World) (x y z : Value) : Bx3 (w.alloc (.cells #[x, y, z] 140)) w.heap.size x y z := by
  refine ⟨(St3.new w x y z _).2.1, fun a n c e => ?_⟩
  injection e with e _ _
  injection e with e
  subst e; exact ⟨_, _, (MapKept.heap_alloc w _).1⟩
theorem Bx3.sk {bs bl : Nat} {w w' : World} {b : Nat} {x y z : Value} (h : Bx3 w b x y z) (hs : Sk bs bl w w') (hm : TwoMaps w bs bl) : Bx3 w' b x y z :=
  ⟨⟨hs.cell hm h.1.1, hs.cell hm h.1.2.1, hs.cell hm h.1.2.2⟩, h.2.sk hs hm⟩
theorem Bx3.grown {w w' : World} {b : Nat} {x y z : Value} {own : Option Nat} (h : Bx3 w b x y z) (hg : w.grownBy w' own) (ho : ∀ g, own = some g -> ∃ cs fr, w.heap[g]? = some (.cells cs 55 fr)) : Bx3 w' b x y z := by
  obtain ⟨cs, fr, h1⟩ := h.2 _ _ _ rfl
  have e : ∀ i v, w.cell? ⟨b, i, none⟩ = some v -> w'.cell? ⟨b, i, none⟩ = some v := fun i v hv => by
    rw [World.cell?_of_block (hg.block b (Array.getElem?_eq_some_iff.1 h1).1 (fun e2 => by
      obtain ⟨cs', fr', h2⟩ := ho _ e2.symm; rw [h1] at h2
      injection h2 with h2
      injection h2 with _ h3 _
      exact absurd h3 (by decide)))]
    exact hv
  exact ⟨⟨e _ _ h.1.1, e _ _ h.1.2.1, e _ _ h.1.2.2⟩, h.2.grown hg (by decide) ho⟩
theorem Bx3.below {w w' : World} {b : Nat} {x y z : Value} (h : Bx3 w b x y z) (hb : Below w.heap.size w w') : Bx3 w' b x y z := by
  obtain ⟨cs, fr, h1⟩ := h.2 _ _ _ rfl; have hlt : b < w.heap.size := (Array.getElem?_eq_some_iff.1 h1).1
  exact ⟨⟨(hb.cell (p := ⟨b, 0, none⟩) hlt).trans h.1.1, (hb.cell (p := ⟨b, 1, none⟩) hlt).trans h.1.2.1, (hb.cell (p := ⟨b, 2, none⟩) hlt).trans h.1.2.2⟩, h.2.below hb⟩
theorem SpO.own {w : World} {base : Nat} {vo : Option Addr} {n cap : Nat} {x : List (Int × Int)} (h : SpO w base (.slice vo n cap) x) (o : Obj) : ∀ g, (Value.slice vo n cap).ownBlock = some g -> base <= g /\ ∃ cs fr, (w.alloc o).heap[g]? = some (.cells cs 55 fr) := by
  intro g hg
  rcases h.2 with ⟨h0, _⟩ | ⟨g', cap', cur, h1, h2, h3, _⟩
  · rw [h0] at hg; simp [Value.ownBlock] at hg
  · rw [h1] at hg
    simp [Value.ownBlock] at hg
    subst hg; exact ⟨h2, cur, _, (Below.heap_alloc w o g' (Array.getElem?_eq_some_iff.1 h3).1).trans h3⟩
variable {Pz : Nat -> Prop}
theorem meets_in (w0 w : World) (B bs bl n : Nat) (va vr pv fv : Value) (m : Mo) (ps : List (List (Int × Int))) (l : List (Int × Int)) (ho : Option Addr) (hc : Nat) (code : Int) (c : Nat) (hI : -9223372036854775808 <= code /\ code <= 9223372036854775807) (hB : 0 < w0.heap.size) (hT : TabAt w0) (hV : TaskV w0 va vr pv fv m ps l) (hk : tkcode m ps l = 0) (hS : SvOk Pz w0 w B bs bl n va vr pv fv m ps l ho hc) (hn : n + 300000 < 1000000000000) (hcr : 0 <= code /\ code < prodTo m.vars m.vars.length) (hcN : c < 2 ^ (aheadL l).length) :
    Calls Tryz.prog 40 #[.pointer (some ⟨B, 0, none⟩), .agg #[.int .i64 code, .int .i64 (c : Int)]] w fun e w' => e = .returned (.tuple #[.int .i64 (metN l (letL m ps code) (c : Int)), .int .i64 0]) /\ Sk bs bl w w' /\ Hid (SvOk Pz w0 w' B bs bl (n + 1) va vr pv fv m ps l ho hc) := by
  obtain ⟨hp0, hl0⟩ := tk_zero hk; obtain ⟨hm0, _⟩ := pcode_m hp0; have hw := wcode_yes hm0 hcr; obtain ⟨fo, fc, rfl, _⟩ := id hV.fo
  have htc : tcode l (letL m ps code) (c : Int) = 0 := by
    refine tcode_ok (by rw [(tk_let hk hcr).2]; exact hl0) fun hno => ?_
    unfold ClaimNo at hno; have : ((2 ^ (aheadL l).length : Nat) : Int) = (2 : Int) ^ (aheadL l).length := by push_cast; rfl
    rcases hno with hno | hno
    · omega
    · rw [<- this] at hno; omega
  obtain ⟨W1, hW1⟩ : ∃ W1, W1 = w.alloc (.cells #[.int .i64 code, .int .i64 (c : Int)] 55) := ⟨_, rfl⟩
  have hb1 : Below w.heap.size w W1 := by rw [hW1]; exact (Below.refl _ _).alloc (Nat.le_refl _) _
  have hs1 : W1.cell? ⟨w.heap.size, 0, none⟩ = some (.int .i64 code) /\ W1.cell? ⟨w.heap.size, 1, none⟩ = some (.int .i64 (c : Int)) := by rw [hW1]; constructor <;> simp [go_sem]
  have hS1 := hS.below hb1; have hst := stateOf_any w0 W1 B bs bl n va vr pv (.slice fo l.length fc) m ps l ho hc code hI hB hT hV hk hS1 (by omega)
  have hst2 : Calls Tryz.prog 64 #[.pointer (some ⟨B, 0, none⟩), .int .i64 code] W1 fun e w' => ∃ lo lc no nn nc so sn sc, e = .returned (.tuple #[.agg #[.slice lo ps.length lc, .slice no nn nc, .slice so sn sc], .int .i64 0]) /\ Hid (∀ w2, Below w'.heap.size w' w2 -> Sk bs bl w w2 /\ SvOk Pz w0 w2 B bs bl (n + 1) va vr pv (.slice fo l.length fc) m ps l ho hc /\ w2.cell? ⟨B, 3, none⟩ = some (.slice fo l.length fc) /\ w2.cell? ⟨w.heap.size, 0, none⟩ = some (.int .i64 code) /\ w2.cell? ⟨w.heap.size, 1, none⟩ = some (.int .i64 (c : Int)) /\ Calls Tryz.prog 66 #[.slice fo l.length fc, .slice lo ps.length lc, .int .i64 (c : Int)] w2 fun e w3 => e = .returned (.tuple #[.int .i64 (metN l (letL m ps code) (c : Int)), .int .i64 0]) /\ Below w2.heap.size w2 w3) := hst.mono fun e w' ⟨h1, h2, h3⟩ => by
    rcases h3 with ⟨_, lo, lc, no, nc, so, sc, h4, h5⟩ | ⟨h4, _⟩
    · refine ⟨lo, lc, no, _, nc, so, _, sc, h4, fun w2 hb2 => ?_⟩
      have hsk := (h1.trans (Sk.of hb2)); have hS2 := h2.out.below hb2; obtain ⟨lo', lc', no', nc', so', sc', e5, hx, _⟩ := h5.out
      injection e5 with e5
      simp only [Array.mk.injEq, List.cons.injEq, and_true] at e5; rw [<- e5.1] at hx; have h0 := hS2.bel; have hme := lmeets_any (.slice fo l.length fc) (.slice lo ps.length lc) l (letL m ps code) (c : Int) w2 (Nat.lt_of_lt_of_le hB h0.size) (hT.below h0 hB) (hV.fo.below h0) (hx.below hb2); rw [htc] at hme
      exact ⟨(Sk.of hb1).trans hsk, hS2, hS2.box.c3, hsk.cell hS1.two hs1.1, hsk.cell hS1.two hs1.2, hme⟩
    · exact absurd hw h4
  clear hst hS hT hV hk hw hS1 htc hp0 hl0 hm0; have HW1 : Hid (W1 = w.alloc (.cells #[.int .i64 code, .int .i64 (c : Int)] 55)) := hW1; generalize metN l (letL m ps code) (c : Int) = mm at *; generalize ps.length = pn at *; generalize l.length = fn at *
  go_enter Tryz.func40, Tryz.ntmps40
  go_wp2_with (first | (go_at_call 64; rw [<- hW1]; refine hst2.mono ?_; rintro e w2 ⟨lo, lc, no, nn, nc, so, sn, sc, rfl, HR⟩))
  have hb2 : ∀ o, Below w2.heap.size w2 (w2.alloc o) := fun o => (Below.refl _ _).alloc (Nat.le_refl _) o
  generalize hw3 : w2.alloc (.cells #[.slice lo pn lc, .slice no nn nc, .slice so sn sc] 140) = w3 at *; have hb3 : Below w2.heap.size w2 w3 := by rw [<- hw3]; exact hb2 _
  have q0 : w3.cell? ⟨w2.heap.size, 0, none⟩ = some (.slice lo pn lc) := by rw [<- hw3]; simp [go_sem]
  have hlt3 : w2.heap.size < w3.heap.size := World.block_lt_of_cell? _ _ q0
  have HSF : Hid (∀ w', Below w3.heap.size w3 w' -> w'.cell? ⟨B, 3, none⟩ = some (.slice fo fn fc) /\ w'.cell? ⟨w2.heap.size, 0, none⟩ = some (.slice lo pn lc) /\ w'.cell? ⟨w.heap.size, 1, none⟩ = some (.int .i64 (c : Int))) := fun w' h => by
    obtain ⟨_, _, q3, _, q1, _⟩ := HR.out w' (hb3.trans (h.mono hb3.size)); exact ⟨q3, (h.cell (p := ⟨w2.heap.size, 0, none⟩) hlt3).trans q0, q1⟩
  have hB0 : Below w3.heap.size w3 w3 := Below.refl _ _; obtain ⟨_, _, _, _, _, hme⟩ := HR.out w3.drew hb3.drew; clear hw3 hb2 q0 hst2 hs1 hW1
  go_region_held3 (fun w' => w'.cell? ⟨B, 3, none⟩ = some (.slice fo fn fc) /\ w'.cell? ⟨w2.heap.size, 0, none⟩ = some (.slice lo pn lc) /\ w'.cell? ⟨w.heap.size, 1, none⟩ = some (.int .i64 (c : Int)))
    (first | exact HSF.out _ hb6 | exact HSF.out _ hB0.drew | exact HSF.out _ hB0)
    (first | (go_at_call 66; refine hme.mono ?_; rintro e w6 ⟨rfl, hb6'⟩; have hb6 := hB0.drew.trans (hb6'.mono hB0.drew.size)))
  go_wp2_with fail
  go_ret2
  obtain ⟨r1, r2, _⟩ := HR.out _ (hb3.trans (hb6.mono hb3.size)); exact ⟨rfl, r1, r2⟩
end Go.Proofs.YtobopjjmhginlabGreatDoor
namespace Go.Proofs.YtobopjjmhginlabGreatDoor
open Go.ChangeShapes Go.WideShapes Go.ChangeAt Go.RowKit Go.Deep Go.Maps
open Terms Tm
set_option maxHeartbeats 6400000
set_option maxRecDepth 20000
variable {Pz : Nat -> Prop}
def BhPost (Pz : Nat -> Prop) (w0 w : World) (B bs bl n : Nat) (va vr pv fv : Value) (m : Mo) (ps : List (List (Int × Int))) (l : List (Int × Int)) (ho : Option Addr) (hc : Nat) (code c : Int) (e : Ending) (w' : World) : Prop :=
  Sk bs bl w w' /\ Hid (SvOk Pz w0 w' B bs bl (n + 300000) va vr pv fv m ps l ho hc) /\ ((wcode m code = 0 /\ ∃ so sc, e = .returned (.tuple #[.slice so (behL m ps l code c).length sc, .int .i64 0]) /\ Hid (SpO w' w.heap.size (.slice so (behL m ps l code c).length sc) (behL m ps l code c))) \/ (wcode m code ≠ 0 /\ e = .returned (.tuple #[.slice none 0 0, .int .i64 (wcode m code)])))
theorem behind_in (w0 w : World) (B bs bl n : Nat) (va vr pv fv : Value) (m : Mo) (ps : List (List (Int × Int))) (l : List (Int × Int)) (ho : Option Addr) (hc : Nat) (code : Int) (c : Nat) (hI : -9223372036854775808 <= code /\ code <= 9223372036854775807) (hB : 0 < w0.heap.size) (hT : TabAt w0) (hV : TaskV w0 va vr pv fv m ps l) (hk : tkcode m ps l = 0) (hS : SvOk Pz w0 w B bs bl n va vr pv fv m ps l ho hc) (hn : n + 300000 < 1000000000000) (hcr : 0 <= code /\ code < prodTo m.vars m.vars.length) (hcN : c < 2 ^ (aheadL l).length) :
    Calls Tryz.prog 39 #[.pointer (some ⟨B, 0, none⟩), .agg #[.int .i64 code, .int .i64 (c : Int)]] w (BhPost Pz w0 w B bs bl n va vr pv fv m ps l ho hc code (c : Int)) := by
  obtain ⟨hp0, hl0⟩ := tk_zero hk; obtain ⟨hm0, _⟩ := pcode_m hp0; obtain ⟨_, _, _, _, h6⟩ := lcode_zero hl0; have hw := wcode_yes hm0 hcr; have hpr := ((mcode_vars hm0).prod (Nat.le_refl m.vars.length)).2; have hN64 : 2 ^ (aheadL l).length <= 64 := Nat.pow_le_pow_right (show 0 < 2 by decide) h6
  have hnn := nextL_len hm0 hcr; obtain ⟨W1, hW1⟩ : ∃ W1, W1 = w.alloc (.cells #[.int .i64 code, .int .i64 (c : Int)] 55) := ⟨_, rfl⟩
  have hb1 : Below w.heap.size w W1 := by rw [hW1]; exact (Below.refl _ _).alloc (Nat.le_refl _) _
  have hs1 : W1.cell? ⟨w.heap.size, 0, none⟩ = some (.int .i64 code) /\ W1.cell? ⟨w.heap.size, 1, none⟩ = some (.int .i64 (c : Int)) := by rw [hW1]; constructor <;> simp [go_sem]
  have hS1 := hS.below hb1; have hst := stateOf_any w0 W1 B bs bl n va vr pv fv m ps l ho hc code hI hB hT hV hk hS1 (by omega)
  have hst2 : Calls Tryz.prog 64 #[.pointer (some ⟨B, 0, none⟩), .int .i64 code] W1 fun e w' => ∃ lo lc no nc so sc, e = .returned (.tuple #[.agg #[.slice lo ps.length lc, .slice no (nextL m code).length nc, .slice so (2 ^ (aheadL l).length) sc], .int .i64 0]) /\ Hid (Sk bs bl w w' /\ SvOk Pz w0 w' B bs bl (n + 1) va vr pv fv m ps l ho hc /\ StOk Pz w' m ps l code (.agg #[.slice lo ps.length lc, .slice no (nextL m code).length nc, .slice so (2 ^ (aheadL l).length) sc])) /\ Hid (w'.cell? ⟨w.heap.size, 0, none⟩ = some (.int .i64 code) /\ w'.cell? ⟨w.heap.size, 1, none⟩ = some (.int .i64 (c : Int))) := hst.mono fun e w' ⟨h1, h2, h3⟩ => by
    rcases h3 with ⟨_, lo, lc, no, nc, so, sc, h4, h5⟩ | ⟨h4, _⟩
    · exact ⟨lo, lc, no, nc, so, sc, h4, ⟨(Sk.of hb1).trans h1, h2.out, h5.out⟩, h1.cell hS1.two hs1.1, h1.cell hS1.two hs1.2⟩
    · exact absurd hw h4
  have HSt : Hid (∀ (w' : World) (n' : Nat) (c' : Int), n' < 1000000000000 -> 0 <= c' /\ c' < prodTo m.vars m.vars.length -> SvOk Pz w0 w' B bs bl n' va vr pv fv m ps l ho hc -> Calls Tryz.prog 64 #[.pointer (some ⟨B, 0, none⟩), .int .i64 c'] w' fun e w'' => ∃ lo lc no nn2 nc so sc, e = .returned (.tuple #[.agg #[.slice lo ps.length lc, .slice no nn2 nc, .slice so (2 ^ (aheadL l).length) sc], .int .i64 0]) /\ Hid (Sk bs bl w' w'' /\ SvOk Pz w0 w'' B bs bl (n' + 1) va vr pv fv m ps l ho hc /\ StOk Pz w'' m ps l c' (.agg #[.slice lo ps.length lc, .slice no nn2 nc, .slice so (2 ^ (aheadL l).length) sc]))) := fun w' n' c' hn' hc' hS' => (stateOf_any w0 w' B bs bl n' va vr pv fv m ps l ho hc c' (by omega) hB hT hV hk hS' hn').mono fun e w'' ⟨h1, h2, h3⟩ => by
    rcases h3 with ⟨_, lo, lc, no, nc, so, sc, h4, h5⟩ | ⟨h4, _⟩
    · exact ⟨lo, lc, no, _, nc, so, sc, h4, h1, h2.out, h5.out⟩
    · exact absurd (wcode_yes hm0 hc') h4
  have HFo : Hid (∀ (w' : World) (n' d : Nat) (c' : Int) (lo no so lo2 no2 so2 : Option Addr) (lc nn nc sc lc2 nn2 nc2 sc2 : Nat), n' < 1000000000000 -> d < 2 ^ (aheadL l).length -> 0 <= c' /\ c' < prodTo m.vars m.vars.length -> SvOk Pz w0 w' B bs bl n' va vr pv fv m ps l ho hc -> StOk Pz w' m ps l code (.agg #[.slice lo ps.length lc, .slice no nn nc, .slice so (2 ^ (aheadL l).length) sc]) -> StOk Pz w' m ps l c' (.agg #[.slice lo2 ps.length lc2, .slice no2 nn2 nc2, .slice so2 (2 ^ (aheadL l).length) sc2]) -> Calls Tryz.prog 65 #[.pointer (some ⟨B, 0, none⟩), .agg #[.slice lo ps.length lc, .slice no nn nc, .slice so (2 ^ (aheadL l).length) sc], .int .i64 (c : Int), .agg #[.slice lo2 ps.length lc2, .slice no2 nn2 nc2, .slice so2 (2 ^ (aheadL l).length) sc2], .int .i64 (d : Int)] w' fun e w'' => e = .returned (.tuple #[.bool (folR l (letL m ps code) (c : Int) (letL m ps c') (d : Int)), .int .i64 0]) /\ Hid (Sk bs bl w' w'' /\ SvOk Pz w0 w'' B bs bl (n' + 1) va vr pv fv m ps l ho hc)) := fun w' n' d c' lo no so lo2 no2 so2 lc nn nc sc lc2 nn2 nc2 sc2 hn' hd hc' hS' hA hB' => by
    obtain ⟨_, _, _, _, _, _, e1, hx, _, _, _⟩ := hA; obtain ⟨_, _, _, _, _, _, e2, hy, _, hz, _⟩ := hB'; simp only [Value.agg.injEq, Array.mk.injEq, List.cons.injEq, Value.slice.injEq, and_true, true_and] at e1 e2; obtain ⟨⟨rfl, rfl⟩, ⟨rfl, rfl, rfl⟩, rfl, rfl⟩ := e1; obtain ⟨⟨rfl, rfl⟩, ⟨rfl, rfl, rfl⟩, rfl, rfl⟩ := e2
    exact (follows_any w0 w' B bs bl n' va vr pv fv m ps l ho hc (letL m ps code) (letL m ps c') c d _ _ _ _ _ _ _ _ _ _ _ _ _ _ hB hT hV hk hS' hn' hx hy hz (tk_let hk hcr).2 (tk_let hk hc').2 hcN hd).mono fun e w'' ⟨h1, h2, h3⟩ => ⟨h1, h2, h3.out⟩
  have HCl : Hid (∀ (w' : World) (n' : Nat), SvOk Pz w0 w' B bs bl n' va vr pv fv m ps l ho hc -> Calls Tryz.prog 37 #[.pointer (some ⟨B, 0, none⟩)] w' fun e w'' => e = .returned (.int .i64 ((2 ^ (aheadL l).length : Nat) : Int)) /\ w'' = w') := fun w' n' h => claims_any B _ _ _ _ ho _ hc bs bl w' h6 h.box
  have HNx : Hid (∀ i, i < (nextL m code).length -> 0 <= (nextL m code).getD i 0 /\ (nextL m code).getD i 0 < prodTo m.vars m.vars.length) := fun i hi => nextL_st hm0 hcr (by rw [List.getD_eq_getElem?_getD, List.getElem?_eq_getElem hi]; exact List.getElem_mem hi)
  have HBt : Hid (∀ i, behTo m ps l code (c : Int) (i + 1) = behTo m ps l code (c : Int) i ++ foTo l (letL m ps code) (c : Int) (letL m ps ((nextL m code).getD i 0)) ((nextL m code).getD i 0) (2 ^ (aheadL l).length)) := fun _ => rfl
  have HB0 : Hid (behTo m ps l code (c : Int) 0 = []) := rfl; have HBl : Hid (∀ i, (behTo m ps l code (c : Int) i).length <= i * 64) := behTo_len hN64 code (c : Int)
  have HInt : Hid (∀ (w' : World) (lo no so : Option Addr) (lc nc sc : Nat), StOk Pz w' m ps l code (.agg #[.slice lo ps.length lc, .slice no (nextL m code).length nc, .slice so (2 ^ (aheadL l).length) sc]) -> ∀ i, i < (nextL m code).length -> ∃ b off, no = some ⟨b, off, none⟩ /\ w'.cell? ⟨b, off + i, none⟩ = some (.int .i64 ((nextL m code).getD i 0))) := fun w' lo no so lc nc sc hA i hi => by
    obtain ⟨_, _, _, _, _, _, e1, _, hx, _, _⟩ := hA; simp only [Value.agg.injEq, Array.mk.injEq, List.cons.injEq, Value.slice.injEq, and_true, true_and] at e1; obtain ⟨⟨rfl, rfl⟩, ⟨rfl, rfl⟩, rfl, rfl⟩ := e1; obtain ⟨ao, cap, e2, h1⟩ := hx
    injection e2 with e2 _ _
    subst e2; obtain ⟨b, off, rfl, _, hat⟩ := h1 (by intro e; rw [e] at hi; simp at hi)
    exact ⟨b, off, rfl, hat i hi⟩
  have hw0 : w0.heap.size <= w.heap.size := hS.bel.size; have hBlt : B < w.heap.size := hS.box.lt; unfold BhPost behL; have HW : Hid (wcode m code = 0) := hw; generalize (nextL m code).length = nn at *; generalize behTo m ps l code (c : Int) = bt at *; generalize m.vars.length = vn at *; generalize hpn : ps.length = pn at *; generalize 2 ^ (aheadL l).length = N at *
  clear hst hS hS1 hT hV hk hp0 hl0 hm0 h6 hw hpn hs1 hcN; subst hW1
  go_enter Tryz.func39, Tryz.ntmps39
  go_wp2_with (first | (go_at_call 64; refine hst2.mono ?_; rintro e w2 ⟨lo, lc, no, nc, so, sc, rfl, HR, HC⟩))
  obtain ⟨hsk2, hsv2, hso2⟩ := HR.out; obtain ⟨hc0, hc1⟩ := HC.out; have hb2 : Below w2.heap.size w2 (w2.alloc (.cells #[.slice lo pn lc, .slice no nn nc, .slice so N sc] 140)) := (Below.refl _ _).alloc (Nat.le_refl _) _; have hbx := Bx3.new w2 (.slice lo pn lc) (.slice no nn nc) (.slice so N sc)
  have hzb : (w2.alloc (.cells #[.slice lo pn lc, .slice no nn nc, .slice so N sc] 140)).heap.size = w2.heap.size + 1 := by simp
  have hskb := hsk2.trans (Sk.of (bs := bs) (bl := bl) hb2); have hsvb := hsv2.below hb2; have hsob := hso2.below hb2; have hsz2 := hsk2.size; have hcb1 : (w2.alloc (.cells #[.slice lo pn lc, .slice no nn nc, .slice so N sc] 140)).cell? ⟨w.heap.size, 1, none⟩ = some (.int .i64 (c : Int)) := (hb2.cell (p := ⟨w.heap.size, 1, none⟩) (World.block_lt_of_cell? _ _ hc1)).trans hc1
  generalize w2.alloc (.cells #[.slice lo pn lc, .slice no nn nc, .slice so N sc] 140) = Wb at *; have htw := hsvb.two; have HTw : Hid (TwoMaps Wb bs bl) := htw; have HSob : Hid (∀ w', Sk bs bl Wb w' -> StOk Pz w' m ps l code (.agg #[.slice lo pn lc, .slice no nn nc, .slice so N sc])) := fun w' h => hsob.sk h htw
  have HBxb : Hid (∀ w', Sk bs bl Wb w' -> (w'.cell? ⟨w2.heap.size, 0, none⟩ = some (.slice lo pn lc) /\ w'.cell? ⟨w2.heap.size, 1, none⟩ = some (.slice no nn nc) /\ w'.cell? ⟨w2.heap.size, 2, none⟩ = some (.slice so N sc)) /\ w'.cell? ⟨w.heap.size, 1, none⟩ = some (.int .i64 (c : Int))) := fun w' h => ⟨(hbx.sk h htw).1, h.cell htw hcb1⟩
  have HSvb : Hid (SvOk Pz w0 Wb B bs bl (n + 1) va vr pv fv m ps l ho hc) := hsvb; have HSkb : Hid (Sk bs bl w Wb) := hskb; clear hst2 HR HC hsk2 hsv2 hso2 hc0 hc1 hb2 hbx hskb hsvb hsob hcb1 htw
  go_loopw [8, 29] (fun u i wr => ∃ k : Nat, k <= nn /\ i = .int .i64 k /\ (∃ po pk pc, u = .slice po pk pc /\ pk <= k * 64 /\ Hid ((bt k).length = pk /\ SpO wr Wb.heap.size (.slice po pk pc) (bt k))) /\ Hid (Sk bs bl Wb wr /\ SvOk Pz w0 wr B bs bl (n + 1 + k * 65) va vr pv fv m ps l ho hc)) (fun _ i _ => nn - (intOf i).toNat)
  case atStart => exact ⟨0, Nat.zero_le _, rfl, ⟨none, 0, 0, rfl, Nat.zero_le _, by rw [HB0.out]; rfl, by rw [HB0.out]; exact SpO.nil _ _⟩, Sk.refl _ _ _, HSvb.out⟩
  case round =>
    obtain ⟨k, hkn, rfl, ⟨po, pk, pc, rfl, hpk, HSp⟩, HSS⟩ := hrel
    by_cases hlt : k < nn
    · obtain ⟨hskr, hsvr⟩ := HSS.out
      obtain ⟨nb, noff, rfl, hcell⟩ := HInt.out wr lo no so lc nc sc (HSob.out wr hskr) k hlt; have hin := HNx.out k hlt; have hst := HSt.out wr (n + 1 + k * 65) _ (by omega) hin hsvr
      have hki : (k : Int) < (nn : Int) := by omega
      have HBk := (show Hid _ from HBt.out k)
      have HSpk : Hid (∀ w', Sk bs bl wr w' -> SpO w' Wb.heap.size (.slice po pk pc) (bt k)) := fun w' h => HSp.out.2.sk h hsvr.two
      have HSl : Hid ((bt k).length = pk) := HSp.out.1
      have HFk : Hid (∀ (w' : World) (n' d : Nat) (lo2 no2 so2 : Option Addr) (lc2 nn2 nc2 sc2 : Nat), n' < 1000000000000 -> d < N -> SvOk Pz w0 w' B bs bl n' va vr pv fv m ps l ho hc -> Sk bs bl Wb w' -> StOk Pz w' m ps l ((nextL m code).getD k 0) (.agg #[.slice lo2 pn lc2, .slice no2 nn2 nc2, .slice so2 N sc2]) -> Calls Tryz.prog 65 #[.pointer (some ⟨B, 0, none⟩), .agg #[.slice lo pn lc, .slice (some ⟨nb, noff, none⟩) nn nc, .slice so N sc], .int .i64 (c : Int), .agg #[.slice lo2 pn lc2, .slice no2 nn2 nc2, .slice so2 N sc2], .int .i64 (d : Int)] w' fun e w'' => e = .returned (.tuple #[.bool (folR l (letL m ps code) (c : Int) (letL m ps ((nextL m code).getD k 0)) (d : Int)), .int .i64 0]) /\ Hid (Sk bs bl w' w'' /\ SvOk Pz w0 w'' B bs bl (n' + 1) va vr pv fv m ps l ho hc)) := fun w' n' d lo2 no2 so2 lc2 nn2 nc2 sc2 h1 h2 h3 h4 h5 => HFo.out w' n' d _ lo _ so lo2 no2 so2 lc nn nc sc lc2 nn2 nc2 sc2 h1 h2 hin h3 (HSob.out w' h4) h5
      have HF0 : Hid (foTo l (letL m ps code) (c : Int) (letL m ps ((nextL m code).getD k 0)) ((nextL m code).getD k 0) 0 = []) := rfl
      have HFS : Hid (∀ d : Nat, foTo l (letL m ps code) (c : Int) (letL m ps ((nextL m code).getD k 0)) ((nextL m code).getD k 0) (d + 1) = if folR l (letL m ps code) (c : Int) (letL m ps ((nextL m code).getD k 0)) (d : Int) = true then foTo l (letL m ps code) (c : Int) (letL m ps ((nextL m code).getD k 0)) ((nextL m code).getD k 0) d ++ [((nextL m code).getD k 0, (d : Int))] else foTo l (letL m ps code) (c : Int) (letL m ps ((nextL m code).getD k 0)) ((nextL m code).getD k 0) d) := fun _ => rfl
      have HFl : Hid (∀ d, (foTo l (letL m ps code) (c : Int) (letL m ps ((nextL m code).getD k 0)) ((nextL m code).getD k 0) d).length <= d) := foTo_len _ _ _ _ _
      have HStk : Hid (∀ (w' w'' : World) (v : Value), StOk Pz w' m ps l ((nextL m code).getD k 0) v -> TwoMaps w' bs bl -> Sk bs bl w' w'' -> StOk Pz w'' m ps l ((nextL m code).getD k 0) v) := fun w' w'' v h1 h2 h3 => h1.sk h3 h2
      have HStg : Hid (∀ (w' w'' : World) (v : Value) (own : Option Nat), StOk Pz w' m ps l ((nextL m code).getD k 0) v -> w'.grownBy w'' own -> (∀ g, own = some g -> ∃ cs fr, w'.heap[g]? = some (.cells cs 55 fr)) -> StOk Pz w'' m ps l ((nextL m code).getD k 0) v) := fun w' w'' v own h1 h2 h3 => h1.grown h2 h3
      have HStb : Hid (∀ (w' : World) (v : Value) (o : Obj), StOk Pz w' m ps l ((nextL m code).getD k 0) v -> StOk Pz (w'.alloc o) m ps l ((nextL m code).getD k 0) v) := fun w' v o h1 => h1.below ((Below.refl _ _).alloc (Nat.le_refl _) o)
      generalize foTo l (letL m ps code) (c : Int) (letL m ps ((nextL m code).getD k 0)) ((nextL m code).getD k 0) = ft at *; generalize hfr : (fun d : Nat => folR l (letL m ps code) (c : Int) (letL m ps ((nextL m code).getD k 0)) (d : Int)) = fr at *
      have HFr : Hid (∀ d : Nat, folR l (letL m ps code) (c : Int) (letL m ps ((nextL m code).getD k 0)) (d : Int) = fr d) := fun d => by rw [<- hfr]
      generalize hstk : (fun (w' : World) (v : Value) => StOk Pz w' m ps l ((nextL m code).getD k 0) v) = SK at *
      have HSK : Hid (∀ (w' : World) (v : Value), StOk Pz w' m ps l ((nextL m code).getD k 0) v ↔ SK w' v) := fun w' v => by rw [<- hstk]
      clear hfr hstk
      have hst' : Calls Tryz.prog 64 #[.pointer (some ⟨B, 0, none⟩), .int .i64 ((nextL m code).getD k 0)] wr fun e w'' => ∃ lo lc no nn2 nc so sc, e = .returned (.tuple #[.agg #[.slice lo pn lc, .slice no nn2 nc, .slice so N sc], .int .i64 0]) /\ Hid (Sk bs bl wr w'' /\ SvOk Pz w0 w'' B bs bl (n + 1 + k * 65 + 1) va vr pv fv m ps l ho hc /\ SK w'' (.agg #[.slice lo pn lc, .slice no nn2 nc, .slice so N sc])) := hst.mono fun e w'' ⟨a1, a2, a3, a4, a5, a6, a7, h1, h2⟩ => ⟨a1, a2, a3, a4, a5, a6, a7, h1, h2.out.1, h2.out.2.1, (HSK.out _ _).1 h2.out.2.2⟩
      clear hst HInt HSt HNx HBt HB0; generalize (nextL m code).getD k 0 = cd at *; clear hsvr HSp
      go_wp2_with (first | (go_at_call 64; refine hst'.mono ?_; rintro e w3 ⟨lo2, lc2, no2, nn2, nc2, so2, sc2, rfl, HR3⟩; have hcl := HCl.out _ _ (HR3.out.2.1.below ((Below.refl w3.heap.size w3).alloc (Nat.le_refl _) (.cells #[.slice lo2 pn lc2, .slice no2 nn2 nc2, .slice so2 N sc2] 140)))) | (go_at_call 37; refine hcl.mono ?_; rintro e w4 ⟨rfl, hw4⟩))
      have hbA : Below w3.heap.size w3 (w3.alloc (.cells #[.slice lo2 pn lc2, .slice no2 nn2 nc2, .slice so2 N sc2] 140)) := (Below.refl _ _).alloc (Nat.le_refl _) _
      have HIn : Hid (SpO (w3.alloc (.cells #[.slice lo2 pn lc2, .slice no2 nn2 nc2, .slice so2 N sc2] 140)) Wb.heap.size (.slice po pk pc) (bt k) /\ Sk bs bl Wb (w3.alloc (.cells #[.slice lo2 pn lc2, .slice no2 nn2 nc2, .slice so2 N sc2] 140)) /\ SvOk Pz w0 (w3.alloc (.cells #[.slice lo2 pn lc2, .slice no2 nn2 nc2, .slice so2 N sc2] 140)) B bs bl (n + 1 + k * 65 + 1) va vr pv fv m ps l ho hc /\ SK (w3.alloc (.cells #[.slice lo2 pn lc2, .slice no2 nn2 nc2, .slice so2 N sc2] 140)) (.agg #[.slice lo2 pn lc2, .slice no2 nn2 nc2, .slice so2 N sc2]) /\ Bx3 (w3.alloc (.cells #[.slice lo2 pn lc2, .slice no2 nn2 nc2, .slice so2 N sc2] 140)) w3.heap.size (.slice lo2 pn lc2) (.slice no2 nn2 nc2) (.slice so2 N sc2)) :=
        ⟨(HSpk.out w3 HR3.out.1).later hbA (Nat.le_refl _), (hskr.trans HR3.out.1).trans (Sk.of hbA), HR3.out.2.1.below hbA, (HSK.out _ _).1 (HStb.out _ _ _ ((HSK.out _ _).2 HR3.out.2.2)), Bx3.new _ _ _ _⟩
      clear HR3 HSpk hst' hcl hbA HStb; generalize w3.alloc (.cells #[.slice lo2 pn lc2, .slice no2 nn2 nc2, .slice so2 N sc2] 140) = Wc at *; have HSKk : Hid (∀ (w' w'' : World) (v : Value), SK w' v -> TwoMaps w' bs bl -> Sk bs bl w' w'' -> SK w'' v) := fun w' w'' v h1 h2 h3 => (HSK.out _ _).1 (HStk.out w' w'' v ((HSK.out _ _).2 h1) h2 h3)
      have HSKg : Hid (∀ (w' w'' : World) (v : Value) (own : Option Nat), SK w' v -> w'.grownBy w'' own -> (∀ g, own = some g -> ∃ cs fr, w'.heap[g]? = some (.cells cs 55 fr)) -> SK w'' v) := fun w' w'' v own h1 h2 h3 => (HSK.out _ _).1 (HStg.out w' w'' v own ((HSK.out _ _).2 h1) h2 h3)
      have HSKa : Hid (∀ (w' : World) (v : Value) (o : Obj), SK w' v -> SK (w'.alloc o) v) := fun w' v o h1 => HSKg.out w' (w'.alloc o) v none h1 (World.grownBy_alloc w' o none) (fun g e => by simp at e)
      have HFk2 : Hid (∀ (w' : World) (n' d : Nat), n' < 1000000000000 -> d < N -> SvOk Pz w0 w' B bs bl n' va vr pv fv m ps l ho hc -> Sk bs bl Wb w' -> SK w' (.agg #[.slice lo2 pn lc2, .slice no2 nn2 nc2, .slice so2 N sc2]) -> Calls Tryz.prog 65 #[.pointer (some ⟨B, 0, none⟩), .agg #[.slice lo pn lc, .slice (some ⟨nb, noff, none⟩) nn nc, .slice so N sc], .int .i64 (c : Int), .agg #[.slice lo2 pn lc2, .slice no2 nn2 nc2, .slice so2 N sc2], .int .i64 (d : Int)] w' fun e w'' => e = .returned (.tuple #[.bool (fr d), .int .i64 0]) /\ Hid (Sk bs bl w' w'' /\ SvOk Pz w0 w'' B bs bl (n' + 1) va vr pv fv m ps l ho hc)) := fun w' n' d h1 h2 h3 h4 h5 => by
        have := HFk.out w' n' d lo2 no2 so2 lc2 nn2 nc2 sc2 h1 h2 h3 h4 ((HSK.out _ _).2 h5); rw [HFr.out] at this; exact this
      have HFS2 : Hid (∀ d : Nat, ft (d + 1) = if fr d = true then ft d ++ [(cd, (d : Int))] else ft d) := fun d => by
        have := HFS.out d; rw [HFr.out] at this; exact this
      clear HFk HFS HFr HSK HStk HStg HFo
      go_loopw [8, 44] (fun u i wr2 => ∃ d : Nat, d <= N /\ i = .int .i64 d /\ (∃ po pk2 pc, u = .slice po pk2 pc /\ pk2 <= pk + d /\ Hid ((bt k ++ ft d).length = pk2 /\ SpO wr2 Wb.heap.size (.slice po pk2 pc) (bt k ++ ft d))) /\ Hid (Sk bs bl Wb wr2 /\ SvOk Pz w0 wr2 B bs bl (n + 1 + k * 65 + 1 + d) va vr pv fv m ps l ho hc /\ SK wr2 (.agg #[.slice lo2 pn lc2, .slice no2 nn2 nc2, .slice so2 N sc2]) /\ Bx3 wr2 w3.heap.size (.slice lo2 pn lc2) (.slice no2 nn2 nc2) (.slice so2 N sc2))) (fun _ i _ => N - (intOf i).toNat)
      case atStart => exact ⟨0, Nat.zero_le _, rfl, ⟨po, pk, pc, rfl, Nat.le_refl _, by rw [HF0.out, List.append_nil]; exact HSl.out, by rw [HF0.out, List.append_nil]; exact HIn.out.1⟩, HIn.out.2⟩
      case round =>
        obtain ⟨d, hdN, rfl, ⟨po2, pk2, pc2, rfl, hpk2, HSp2⟩, HS2⟩ := hrel
        by_cases hd : d < N
        · obtain ⟨hsk2, hsv2, hSK2, hbx2⟩ := HS2.out
          have hfo := HFk2.out _ (n + 1 + k * 65 + 1 + d) d (by omega) hd hsv2 hsk2 hSK2
          obtain ⟨⟨x0, x1, x2⟩, x3⟩ := HBxb.out _ hsk2; obtain ⟨⟨z0, z1, z2⟩, _⟩ := id hbx2; have htw2 := hsv2.two; have HE := (show Hid _ from HFS2.out d)
          have HNx2 : Hid (∀ w', Sk bs bl wr w' -> SpO w' Wb.heap.size (.slice po2 pk2 pc2) (bt k ++ ft d) /\ Sk bs bl Wb w' /\ SK w' (.agg #[.slice lo2 pn lc2, .slice no2 nn2 nc2, .slice so2 N sc2]) /\ Bx3 w' w3.heap.size (.slice lo2 pn lc2) (.slice no2 nn2 nc2) (.slice so2 N sc2)) := fun w' h => ⟨HSp2.out.2.sk h htw2, hsk2.trans h, HSKk.out _ _ _ hSK2 htw2 h, hbx2.sk h htw2⟩
          have HSl2 : Hid ((bt k ++ ft d).length = pk2) := HSp2.out.1; clear hskr
          cases hfd : fr d with
          | false =>
            rw [hfd] at hfo HE; have HE2 : Hid (ft (d + 1) = ft d) := by have := HE.out; rw [if_neg (by simp)] at this; exact this
            clear HE hsv2 hSK2 hbx2 HSp2 HS2 hfd
            go_wp2_with (first | (go_at_call 65; refine hfo.mono ?_; rintro e w5 ⟨rfl, HR5⟩))
            obtain ⟨q1, q2, q3, q4⟩ := HNx2.out _ HR5.out.1
            have HQ := (show Hid (SpO w5 Wb.heap.size (.slice po2 pk2 pc2) (bt k ++ ft d) /\ Sk bs bl Wb w5 /\ SvOk Pz w0 w5 B bs bl (n + 1 + k * 65 + 1 + d + 1) va vr pv fv m ps l ho hc /\ SK w5 (.agg #[.slice lo2 pn lc2, .slice no2 nn2 nc2, .slice so2 N sc2]) /\ Bx3 w5 w3.heap.size (.slice lo2 pn lc2) (.slice no2 nn2 nc2) (.slice so2 N sc2)) from ⟨q1, q2, HR5.out.2, q3, q4⟩)
            clear q1 q2 q3 q4 HR5
            go_roundw
            case rel => exact ⟨d + 1, by omega, by go_num, ⟨po2, pk2, pc2, rfl, by omega, by rw [HE2.out]; exact HSl2.out, by rw [HE2.out]; exact HQ.out.1⟩, HQ.out.2⟩
            case measure => simp [intOf]; omega
          | true =>
            rw [hfd] at hfo HE; have HE2 : Hid (ft (d + 1) = ft d ++ [(cd, (d : Int))]) := by have := HE.out; rw [if_pos rfl] at this; exact this
            clear HE hsv2 hSK2 hbx2 HSp2 HS2 hfd
            go_wp2_with (first | (go_at_call 65; refine hfo.mono ?_; rintro e w5 ⟨rfl, HR5⟩; obtain ⟨q1, q2, q3, q4⟩ := HNx2.out _ HR5.out.1; have HQ := (show Hid (SpO w5 Wb.heap.size (.slice po2 pk2 pc2) (bt k ++ ft d) /\ Sk bs bl Wb w5 /\ SvOk Pz w0 w5 B bs bl (n + 1 + k * 65 + 1 + d + 1) va vr pv fv m ps l ho hc /\ SK w5 (.agg #[.slice lo2 pn lc2, .slice no2 nn2 nc2, .slice so2 N sc2]) /\ Bx3 w5 w3.heap.size (.slice lo2 pn lc2) (.slice no2 nn2 nc2) (.slice so2 N sc2)) from ⟨q1, q2, HR5.out.2, q3, q4⟩); clear q1 q2 q3 q4 HR5; have hsp5 := HQ.out.1; have hsz5 := HQ.out.2.1.size) | (at_builtin; refine push_sp cd (d : Int) rfl _ _ rfl Wb.heap.size pk2 pc2 po2 (bt k ++ ft d) HSl2.out rfl hsp5 rfl (by omega) hsz5 ?_; intro vo6 cap6 w6 ho6 hb6 hg6))
            have hown := hsp5.own (.cells #[.int .i64 cd, .int .i64 (d : Int)] 55)
            have HQ6 : Hid (SpO w6 Wb.heap.size (.slice vo6 (pk2 + 1) cap6) (bt k ++ ft d ++ [(cd, (d : Int))]) /\ Sk bs bl Wb w6 /\ SvOk Pz w0 w6 B bs bl (n + 1 + k * 65 + 1 + d + 1) va vr pv fv m ps l ho hc /\ SK w6 (.agg #[.slice lo2 pn lc2, .slice no2 nn2 nc2, .slice so2 N sc2]) /\ Bx3 w6 w3.heap.size (.slice lo2 pn lc2) (.slice no2 nn2 nc2) (.slice so2 N sc2)) := by
              have ha : Below w5.heap.size w5 (w5.alloc (.cells #[.int .i64 cd, .int .i64 (d : Int)] 55)) := (Below.refl _ _).alloc (Nat.le_refl _) _; refine ⟨ho6, HQ.out.2.1.after hb6, (HQ.out.2.2.1.below ha).spots hg6 (fun g e => ?_), HSKg.out _ _ _ _ (HSKa.out _ _ _ HQ.out.2.2.2.1) hg6 (fun g e => (hown g e).2), (HQ.out.2.2.2.2.below ha).grown hg6 (fun g e => (hown g e).2)⟩
              obtain ⟨h1, h2⟩ := hown g e; have := HSkb.out.size; exact ⟨by omega, by omega, h2⟩
            clear hown ho6 hb6 hg6 hsp5 HQ
            go_wp2_with fail
            go_roundw
            case rel => exact ⟨d + 1, by omega, by go_num, ⟨vo6, pk2 + 1, cap6, rfl, by omega, by rw [HE2.out, <- List.append_assoc, List.length_append, HSl2.out]; rfl, by rw [HE2.out, <- List.append_assoc]; exact HQ6.out.1⟩, HQ6.out.2⟩
            case measure => simp [intOf]; omega
        · obtain rfl : d = N := by omega
          have HSl2 : Hid ((bt (k + 1)).length = pk2 /\ SpO wr Wb.heap.size (.slice po2 pk2 pc2) (bt (k + 1))) := by rw [HBk.out]; exact HSp2.out
          have HS3 : Hid (Sk bs bl Wb wr /\ SvOk Pz w0 wr B bs bl (n + 1 + (k + 1) * 65) va vr pv fv m ps l ho hc) := ⟨HS2.out.1, HS2.out.2.1.mono (by omega)⟩
          clear HSp2 HS2
          go_wp2_with fail
          go_roundw
          case rel => exact ⟨k + 1, by omega, by go_num, ⟨po2, pk2, pc2, rfl, by omega, HSl2.out.1, HSl2.out.2⟩, HS3⟩
          case measure => simp [intOf]; omega
    · obtain rfl : k = nn := by omega
      have HSl : Hid ((bt k).length = pk) := HSp.out.1; have HSpp : Hid (SpO wr Wb.heap.size (.slice po pk pc) (bt k)) := HSp.out.2; have hwb : w.heap.size <= Wb.heap.size := HSkb.out.size; clear HSp
      go_wp2_with fail
      go_ret2
      exact ⟨HSkb.out.trans HSS.out.1, HSS.out.2.mono (by omega), .inl ⟨HW.out, po, pc, by rw [HSl.out]; rfl, by rw [HSl.out]; exact owns_mono HSpp.out hwb⟩⟩
end Go.Proofs.YtobopjjmhginlabGreatDoor
namespace Go.Proofs.YtobopjjmhginlabGreatDoor
open Go.ChangeShapes Go.WideShapes Go.ChangeAt Go.RowKit Go.Deep Go.Maps
open Terms Tm
set_option maxHeartbeats 6400000
set_option maxRecDepth 20000
section
variable {w w1 w2 : World} {base A lm : Nat} {S : List (Int × Int)} {N : List (List Int)} {T : List Int} {init many : Int} {sv nv tv nv' tv' : Value}
theorem AtX.appN {us : List Value} {r : List Int} {ao : Option Addr} {c : Nat} (h : AtX w1 base A lm S N T init many sv nv tv) (hus : w1.ownsRow base 46 1 nv N.length us /\ us.length = N.length /\ ∀ i, i < N.length -> ∃ ao c, us.getD i (.slice none 0 0) = .slice ao (N.getD i []).length c /\ IntsV w1 (.slice ao (N.getD i []).length c) (N.getD i []) /\ RowTy w1 (.slice ao (N.getD i []).length c) 3 /\ ∀ a, ao = some a -> tv.ownBlock ≠ some a.block /\ base <= a.block)
    (hr : IntsV w1 (.slice ao r.length c) r) (hty : RowTy w1 (.slice ao r.length c) 3) (hap : ∀ a, ao = some a -> tv.ownBlock ≠ some a.block /\ base <= a.block) (hg : w1.grownBy w2 nv.ownBlock) (ho : w2.ownsRow base 46 1 nv' (N.length + 1) (us ++ [.slice ao r.length c])) : AtX (w2.setCell ⟨A, 2, none⟩ nv') base A lm S (N ++ [r]) T init many sv nv' tv := by
  obtain ⟨n1, n2, n3⟩ := hus; obtain ⟨es, cl, em⟩ := h.lies.isMap; have hc : Chg (fun i => i = A \/ nv.ownBlock = some i) w1 (w2.setCell ⟨A, 2, none⟩ nv') := ((Chg.grown hg).weaken (fun i _ e => .inr e)).trans2 (Chg.setCell w2 _ _) (fun i _ e => .inl e)
  have hno : ∀ i t, (i = A \/ nv.ownBlock = some i) -> TyB w1 i t -> t = 80 \/ t = 46 := fun i t z ht => by
    rcases z with rfl | e
    · exact .inl (ht.eq h.ty)
    · exact .inr (ht.eq (owns_ty n1 e).2)
  have hni : ∀ i, (i = A \/ nv.ownBlock = some i) -> ¬ TyB w1 i 3 := fun i z ht => by
    rcases hno i _ z ht with e | e
    · exact absurd e (by decide)
    · exact absurd e (by decide)
  have hns : ∀ i, (i = A \/ nv.ownBlock = some i) -> ¬ TyB w1 i 55 := fun i z ht => by
    rcases hno i _ z ht with e | e
    · exact absurd e (by decide)
    · exact absurd e (by decide)
  have hnm : ∀ i, (i = A \/ nv.ownBlock = some i) -> i ≠ lm := fun i z e => by
    subst e
    rcases z with rfl | e
    · exact h.ty.no_map em
    · exact (owns_ty n1 e).2.no_map em
  have hbx : w2.heap[A]? = some (atB sv nv tv init many lm) := (hg.block A h.lt fun e => by have := h.ty.eq (owns_ty n1 e.symm).2; exact absurd this (by decide)).trans h.box
  have hA2 : TyB w2 A 80 := ⟨_, _, hbx⟩; refine ⟨atB_set2 w2 hbx nv', h.bA, h.bl, h.lies.kept (hc.block lm h.lies.lt (fun z => hnm _ z rfl)), owns_chg h.sp hc (fun g e z => hns g z (owns_ty h.sp e).2), ⟨us ++ [.slice ao r.length c], ?_, by simp [n2], fun i hi => ?_⟩, owns_chg h.st hc (fun g e z => hni g z (owns_ty h.st e).2)⟩
  · rw [List.length_append, List.length_singleton]
    exact owns_chg ho (Chg.setCell w2 _ _) (fun g e z => by
      have h1 := (owns_ty ho e).2; have z' : g = A := z; subst z'
      exact absurd (h1.eq hA2) (by decide))
  · have hget : ∀ (α : Type) (x y : List α) (d : α) (j : Nat), (x ++ y).getD j d = if j < x.length then x.getD j d else y.getD (j - x.length) d := fun α x y d j => by
      by_cases hj : j < x.length
      · rw [if_pos hj]; simp [List.getD_eq_getElem?_getD, List.getElem?_append_left hj]
      · rw [if_neg hj]; simp [List.getD_eq_getElem?_getD, List.getElem?_append_right (Nat.le_of_not_lt hj)]
    by_cases hlt : i < N.length
    · obtain ⟨ao', c', e1, e2, e3, e4⟩ := n3 i hlt
      have hz : ∀ a, ao' = some a -> ¬ (a.block = A \/ nv.ownBlock = some a.block) := fun a e z => hni _ z (by subst e; exact e3.ty)
      rw [hget, hget, n2, if_pos hlt, if_pos hlt]; exact ⟨ao', c', e1, e2.chg hc hz, e3.chg hc hz, e4⟩
    · have hi2 : i = N.length := by simp at hi; omega
      have hz : ∀ a, ao = some a -> ¬ (a.block = A \/ nv.ownBlock = some a.block) := fun a e z => hni _ z (by subst e; exact hty.ty)
      rw [hget, hget, n2, if_neg hlt, if_neg hlt, hi2, Nat.sub_self]; exact ⟨ao, c, rfl, hr.chg hc hz, hty.chg hc hz, hap⟩
theorem AtX.appT {x : Int} (h : AtX w1 base A lm S N T init many sv nv tv) (hg : w1.grownBy w2 tv.ownBlock) (ho : w2.ownsRow base 3 1 tv' (T.length + 1) (ivals T ++ [.int .i64 x])) (hown : tv'.ownBlock = tv.ownBlock \/ ∃ g, tv'.ownBlock = some g /\ w1.heap.size <= g) : AtX (w2.setCell ⟨A, 3, none⟩ tv') base A lm S N (T ++ [x]) init many sv nv tv' := by
  obtain ⟨us, n1, n2, n3⟩ := id h.nx; obtain ⟨es, cl, em⟩ := h.lies.isMap; have hc : Chg (fun i => i = A \/ tv.ownBlock = some i) w1 (w2.setCell ⟨A, 3, none⟩ tv') := ((Chg.grown hg).weaken (fun i _ e => .inr e)).trans2 (Chg.setCell w2 _ _) (fun i _ e => .inl e)
  have hno : ∀ i t, (i = A \/ tv.ownBlock = some i) -> TyB w1 i t -> t = 80 \/ t = 3 := fun i t z ht => by
    rcases z with rfl | e
    · exact .inl (ht.eq h.ty)
    · exact .inr (ht.eq (owns_ty h.st e).2)
  have hnl : ∀ i, (i = A \/ tv.ownBlock = some i) -> ¬ TyB w1 i 46 := fun i z ht => by
    rcases hno i _ z ht with e | e
    · exact absurd e (by decide)
    · exact absurd e (by decide)
  have hns : ∀ i, (i = A \/ tv.ownBlock = some i) -> ¬ TyB w1 i 55 := fun i z ht => by
    rcases hno i _ z ht with e | e
    · exact absurd e (by decide)
    · exact absurd e (by decide)
  have hnm : ∀ i, (i = A \/ tv.ownBlock = some i) -> i ≠ lm := fun i z e => by
    subst e
    rcases z with rfl | e
    · exact h.ty.no_map em
    · exact (owns_ty h.st e).2.no_map em
  have hbx : w2.heap[A]? = some (atB sv nv tv init many lm) := (hg.block A h.lt fun e => by have := h.ty.eq (owns_ty h.st e.symm).2; exact absurd this (by decide)).trans h.box
  have hA2 : TyB w2 A 80 := ⟨_, _, hbx⟩; refine ⟨atB_set3 w2 hbx tv', h.bA, h.bl, h.lies.kept (hc.block lm h.lies.lt (fun z => hnm _ z rfl)), owns_chg h.sp hc (fun g e z => hns g z (owns_ty h.sp e).2), ⟨us, owns_chg n1 hc (fun g e z => hnl g z (owns_ty n1 e).2), n2, fun i hi => ?_⟩, ?_⟩
  · obtain ⟨ao', c', e1, e2, e3, e4⟩ := n3 i hi
    have hz : ∀ a, ao' = some a -> ¬ (a.block = A \/ tv.ownBlock = some a.block) := fun a e z => by
      rcases z with z | z
      · subst e
        have := e3.ty; rw [z] at this; exact absurd (this.eq h.ty) (by decide)
      · exact (e4 a e).1 z
    refine ⟨ao', c', e1, e2.chg hc hz, e3.chg hc hz, fun a e => ⟨fun e5 => ?_, (e4 a e).2⟩⟩
    rcases hown with h1 | ⟨g, h1, h2⟩
    · rw [h1] at e5
      exact (e4 a e).1 e5
    · rw [h1] at e5
      injection e5 with e5
      subst e; have := e3.ty.lt; omega
  · have e : ivals (T ++ [x]) = ivals T ++ [.int .i64 x] := by simp [ivals]
    rw [e, List.length_append, List.length_singleton]
    exact owns_chg ho (Chg.setCell w2 _ _) (fun g e z => by
      have h1 := (owns_ty ho e).2; have z' : g = A := z; subst z'
      exact absurd (h1.eq hA2) (by decide))
end
section
variable {Pz Pz' : Nat -> Prop} {w0 w w' : World} {B bs bl n : Nat} {va vr pv fv : Value} {m : Mo} {ps : List (List (Int × Int))} {l : List (Int × Int)} {ho : Option Addr} {hc : Nat}
theorem SvOk.chg2 {Z : Nat -> Prop} (h : SvOk Pz w0 w B bs bl n va vr pv fv m ps l ho hc) (hs : Chg Z w w') (hz : ∀ i, Z i -> w0.heap.size <= i /\ i ≠ B /\ i ≠ bs /\ i ≠ bl /\ ¬ TyB w i 4 /\ (TyB w i 3 -> ¬ Pz i)) (hp : ∀ b, b < w.heap.size -> Pz b -> Pz' b) (hup : ∀ b, w'.heap.size <= b -> Pz' b) : SvOk Pz' w0 w' B bs bl n va vr pv fv m ps l ho hc := by
  have k := h.chg hs hz; obtain ⟨f, h1, h2⟩ := h.st; have zs : ¬ Z bs := fun z => (hz _ z).2.2.1 rfl
  refine ⟨k.box, k.bel, k.lo1, k.lo2, k.ne, k.ah, k.aty, hup, fun a e => hp _ (by have := h.aty; rw [e] at this; exact this.ty.lt) (h.aP a e), ⟨f, h1.chg hs zs, fun kl v hv => ?_⟩, k.li⟩
  obtain ⟨code, e1, e2, e3⟩ := h2 kl v hv; obtain ⟨lo, lc, no, nc, so, sc, g1, g2, g3, g4, g5, g6, g7, g8, g9⟩ := e3.chg hs fun i z => (hz i z).2.2.2.2
  obtain ⟨lo', lc', no', nc', so', sc', g1', _, _, _, _, g6', g7', _, _⟩ := e3; rw [g1] at g1'; simp only [Value.agg.injEq, Array.mk.injEq, List.cons.injEq, Value.slice.injEq, and_true, true_and] at g1'; obtain ⟨⟨rfl, rfl⟩, ⟨rfl, rfl⟩, rfl, rfl⟩ := g1'
  exact ⟨code, e1, e2, lo, lc, no, nc, so, sc, g1, g2, g3, g4, g5, g6, g7, fun a e => by subst e; exact hp _ g6'.ty.lt (g8 a rfl), fun a e => by subst e; exact hp _ g7'.ty.lt (g9 a rfl)⟩
end
def offT (tv : Value) : Nat -> Prop := fun b => tv.ownBlock ≠ some b
structure ExW (w0 w : World) (base A lm B bs bl n : Nat) (va vr pv fv : Value) (m : Mo) (ps : List (List (Int × Int))) (l : List (Int × Int)) (ho : Option Addr) (hc : Nat) (S : List (Int × Int)) (N : List (List Int)) (T : List Int) (init many : Int) (sv nv tv : Value) : Prop where
  su : SvOk (offT tv) w0 w B bs bl n va vr pv fv m ps l ho hc
  tl : AtX w base A lm S N T init many sv nv tv
  lo : w0.heap.size <= base /\ B < base /\ bs < base /\ bl < base
section
variable {w0 w w' w1 w2 : World} {base A lm B bs bl n n' : Nat} {va vr pv fv : Value} {m : Mo} {ps : List (List (Int × Int))} {l : List (Int × Int)} {ho : Option Addr} {hc : Nat} {S S' : List (Int × Int)} {N : List (List Int)} {T : List Int} {init many : Int} {sv sv' nv tv nv' tv' : Value}
theorem ExW.below (h : ExW w0 w base A lm B bs bl n va vr pv fv m ps l ho hc S N T init many sv nv tv) (hb : Below w.heap.size w w') : ExW w0 w' base A lm B bs bl n va vr pv fv m ps l ho hc S N T init many sv nv tv := ⟨h.su.below hb, h.tl.below hb, h.lo⟩
theorem ExW.call (h : ExW w0 w base A lm B bs bl n va vr pv fv m ps l ho hc S N T init many sv nv tv) (hs : Sk bs bl w w') (hv : SvOk (offT tv) w0 w' B bs bl n' va vr pv fv m ps l ho hc) : ExW w0 w' base A lm B bs bl n' va vr pv fv m ps l ho hc S N T init many sv nv tv :=
  ⟨hv, h.tl.sk hs h.su.two (by have := h.tl.bl; have := h.lo; omega) (by have := h.tl.bl; have := h.lo; omega), h.lo⟩
theorem ExW.far (h : ExW w0 w base A lm B bs bl n va vr pv fv m ps l ho hc S N T init many sv nv tv) {i : Nat} (hi : base <= i) : w0.heap.size <= i /\ i ≠ B /\ i ≠ bs /\ i ≠ bl := by
  have := h.lo; omega
theorem ExW.put (h : ExW w0 w base A lm B bs bl n va vr pv fv m ps l ho hc S N T init many sv nv tv) (hs : Chg (atZ A lm sv) w w') (hX : AtX w' base A lm S' N T init many sv' nv tv) : ExW w0 w' base A lm B bs bl n va vr pv fv m ps l ho hc S' N T init many sv' nv tv := by
  refine ⟨h.su.chg hs fun i z => ?_, hX, h.lo⟩
  obtain ⟨es, c, em⟩ := h.tl.lies.isMap
  rcases z with rfl | rfl | e
  · obtain ⟨a, b, c, d⟩ := h.far h.tl.bA
    exact ⟨a, b, c, d, fun ht => absurd (ht.eq h.tl.ty) (by decide), fun ht => absurd (ht.eq h.tl.ty) (by decide)⟩
  · obtain ⟨a, b, c, d⟩ := h.far h.tl.bl
    exact ⟨a, b, c, d, fun ht => absurd em ht.no_map, fun ht => absurd em ht.no_map⟩
  · obtain ⟨o1, o2⟩ := owns_ty h.tl.sp e
    obtain ⟨a, b, c, d⟩ := h.far o1; exact ⟨a, b, c, d, fun ht => absurd (ht.eq o2) (by decide), fun ht => absurd (ht.eq o2) (by decide)⟩
theorem ExW.appN {us : List Value} {r : List Int} {ao : Option Addr} {c : Nat} (h : ExW w0 w1 base A lm B bs bl n va vr pv fv m ps l ho hc S N T init many sv nv tv) (hus : w1.ownsRow base 46 1 nv N.length us /\ us.length = N.length /\ ∀ i, i < N.length -> ∃ ao c, us.getD i (.slice none 0 0) = .slice ao (N.getD i []).length c /\ IntsV w1 (.slice ao (N.getD i []).length c) (N.getD i []) /\ RowTy w1 (.slice ao (N.getD i []).length c) 3 /\ ∀ a, ao = some a -> tv.ownBlock ≠ some a.block /\ base <= a.block)
    (hr : IntsV w1 (.slice ao r.length c) r) (hty : RowTy w1 (.slice ao r.length c) 3) (hap : ∀ a, ao = some a -> tv.ownBlock ≠ some a.block /\ base <= a.block) (hg : w1.grownBy w2 nv.ownBlock) (ho' : w2.ownsRow base 46 1 nv' (N.length + 1) (us ++ [.slice ao r.length c])) : ExW w0 (w2.setCell ⟨A, 2, none⟩ nv') base A lm B bs bl n va vr pv fv m ps l ho hc S (N ++ [r]) T init many sv nv' tv := by
  have hch : Chg (fun i => i = A \/ nv.ownBlock = some i) w1 (w2.setCell ⟨A, 2, none⟩ nv') := ((Chg.grown hg).weaken (fun i _ e => .inr e)).trans2 (Chg.setCell w2 _ _) (fun i _ e => .inl e)
  refine ⟨h.su.chg hch fun i z => ?_, h.tl.appN hus hr hty hap hg ho', h.lo⟩
  rcases z with rfl | e
  · obtain ⟨a, b, c, d⟩ := h.far h.tl.bA
    exact ⟨a, b, c, d, fun ht => absurd (ht.eq h.tl.ty) (by decide), fun ht => absurd (ht.eq h.tl.ty) (by decide)⟩
  · obtain ⟨o1, o2⟩ := owns_ty hus.1 e
    obtain ⟨a, b, c, d⟩ := h.far o1; exact ⟨a, b, c, d, fun ht => absurd (ht.eq o2) (by decide), fun ht => absurd (ht.eq o2) (by decide)⟩
theorem ExW.appT {x : Int} (h : ExW w0 w1 base A lm B bs bl n va vr pv fv m ps l ho hc S N T init many sv nv tv) (hg : w1.grownBy w2 tv.ownBlock) (ho' : w2.ownsRow base 3 1 tv' (T.length + 1) (ivals T ++ [.int .i64 x])) (hown : tv'.ownBlock = tv.ownBlock \/ ∃ g, tv'.ownBlock = some g /\ w1.heap.size <= g) : ExW w0 (w2.setCell ⟨A, 3, none⟩ tv') base A lm B bs bl n va vr pv fv m ps l ho hc S N (T ++ [x]) init many sv nv tv' := by
  have hch : Chg (fun i => i = A \/ tv.ownBlock = some i) w1 (w2.setCell ⟨A, 3, none⟩ tv') := ((Chg.grown hg).weaken (fun i _ e => .inr e)).trans2 (Chg.setCell w2 _ _) (fun i _ e => .inl e)
  have hX := h.tl.appT hg ho' hown; refine ⟨h.su.chg2 hch (fun i z => ?_) (fun b hb hp => ?_) (fun b hb e => ?_), hX, h.lo⟩
  · rcases z with rfl | e
    · obtain ⟨a, b, c, d⟩ := h.far h.tl.bA
      exact ⟨a, b, c, d, fun ht => absurd (ht.eq h.tl.ty) (by decide), fun ht => absurd (ht.eq h.tl.ty) (by decide)⟩
    · obtain ⟨o1, o2⟩ := owns_ty h.tl.st e
      obtain ⟨a, b, c, d⟩ := h.far o1; exact ⟨a, b, c, d, fun ht => absurd (ht.eq o2) (by decide), fun _ hp => hp e⟩
  · intro e
    rcases hown with h1 | ⟨g, h1, h2⟩
    · rw [h1] at e
      exact hp e
    · rw [h1] at e
      injection e with e
      omega
  · have := (owns_ty hX.st e).2.lt
    omega
end
theorem infoIL : (Tryz.prog.info? 46).map (fun i => (i.zero, i.size, i.bytes)) = some (some (.slice none 0 0), 1, 24) := by kernel_rfl
theorem xfo_mem {l : List (Int × Int)} {x : List Bool} {c : Int} {y : List Bool} {st : Int} {p : Int × Int} : ∀ k, p ∈ foTo l x c y st k -> p.1 = st /\ ∃ d : Nat, d < k /\ p.2 = (d : Int) /\ folR l x c y (d : Int) = true
  | 0, h => by simp [foTo] at h
  | k + 1, h => by
    rw [foTo] at h
    split at h
    · next hf =>
      rw [List.mem_append, List.mem_singleton] at h
      rcases h with h | rfl
      · obtain ⟨h1, d, h2, h3⟩ := xfo_mem k h
        exact ⟨h1, d, by omega, h3⟩
      · exact ⟨rfl, k, by omega, rfl, hf⟩
    · obtain ⟨h1, d, h2, h3⟩ := xfo_mem k h
      exact ⟨h1, d, by omega, h3⟩
theorem xbe_mem {m : Mo} {ps : List (List (Int × Int))} {l : List (Int × Int)} {code c : Int} {p : Int × Int} : ∀ i, i <= (nextL m code).length -> p ∈ behTo m ps l code c i -> p.1 ∈ nextL m code /\ ∃ d : Nat, d < 2 ^ (aheadL l).length /\ p.2 = (d : Int) /\ folR l (letL m ps code) c (letL m ps p.1) (d : Int) = true
  | 0, _, h => by simp [behTo] at h
  | i + 1, hi, h => by
    rw [behTo, List.mem_append] at h
    rcases h with h | h
    · exact xbe_mem i (by omega) h
    · obtain ⟨h1, d, h2, h3, h4⟩ := xfo_mem _ h
      refine ⟨?_, d, h2, h3, by rw [h1]; exact h4⟩
      rw [h1, List.getD_eq_getElem?_getD, List.getElem?_eq_getElem (by omega)]
      exact List.getElem_mem _
theorem behL_spot {m : Mo} {ps : List (List (Int × Int))} {l : List (Int × Int)} {code c : Int} (hm : mcode m = 0) (hcr : 0 <= code /\ code < prodTo m.vars m.vars.length) {p : Int × Int} (h : p ∈ behL m ps l code c) : (0 <= p.1 /\ p.1 < prodTo m.vars m.vars.length) /\ ∃ d : Nat, d < 2 ^ (aheadL l).length /\ p.2 = (d : Int) := by
  obtain ⟨h1, d, h2, h3, _⟩ := xbe_mem _ (Nat.le_refl _) h; exact ⟨nextL_st hm hcr h1, d, h2, h3⟩
theorem behL_len {m : Mo} {ps : List (List (Int × Int))} {l : List (Int × Int)} {code c : Int} (hm : mcode m = 0) (hcr : 0 <= code /\ code < prodTo m.vars m.vars.length) (h6 : (aheadL l).length <= 6) : (behL m ps l code c).length <= 262144 := by
  have h1 := behTo_len (m := m) (ps := ps) (l := l) (Nat.pow_le_pow_right (show 0 < 2 by decide) h6) code c (nextL m code).length
  have h2 := nextL_len hm hcr; unfold behL; omega
theorem spot_I64 {m : Mo} {ps : List (List (Int × Int))} {l : List (Int × Int)} (hk : tkcode m ps l = 0) {p : Int × Int} (h : (0 <= p.1 /\ p.1 < prodTo m.vars m.vars.length) /\ ∃ d : Nat, d < 2 ^ (aheadL l).length /\ p.2 = (d : Int)) : I64s p := by
  obtain ⟨hp0, hl0⟩ := tk_zero hk; obtain ⟨hm0, _⟩ := pcode_m hp0; obtain ⟨_, _, _, _, h6⟩ := lcode_zero hl0; have hpr := ((mcode_vars hm0).prod (Nat.le_refl m.vars.length)).2; have hN64 : 2 ^ (aheadL l).length <= 64 := Nat.pow_le_pow_right (show 0 < 2 by decide) h6
  obtain ⟨h1, d, h2, h3⟩ := h; unfold I64s; omega
def GoPost (w0 : World) (base A lm B bs bl n : Nat) (va vr pv fv : Value) (m : Mo) (ps : List (List (Int × Int))) (l : List (Int × Int)) (ho : Option Addr) (hc : Nat) (S : List (Int × Int)) (N : List (List Int)) (T : List Int) (init many : Int) (code : Int) (c : Nat) (e : Ending) (w' : World) : Prop :=
  e = .returned (.int .i64 (if 20000 < (plTo S (behL m ps l code (c : Int))).length then 12 else 0)) /\ ∃ sv nv tv, Hid (ExW w0 w' base A lm B bs bl (n + 300001) va vr pv fv m ps l ho hc (plTo S (behL m ps l code (c : Int))) (N ++ [plIx S (behL m ps l code (c : Int))]) (T ++ [metN l (letL m ps code) (c : Int)]) init many sv nv tv)
theorem goThrough_any (w0 w : World) (base A lm B bs bl n : Nat) (va vr pv fv : Value) (m : Mo) (ps : List (List (Int × Int))) (l : List (Int × Int)) (ho : Option Addr) (hc : Nat) (S : List (Int × Int)) (N : List (List Int)) (T : List Int) (init many : Int) (sv nv tv : Value) (code : Int) (c : Nat) (hB : 0 < w0.heap.size) (hT : TabAt w0) (hV : TaskV w0 va vr pv fv m ps l) (hk : tkcode m ps l = 0) (hX : ExW w0 w base A lm B bs bl n va vr pv fv m ps l ho hc S N T init many sv nv tv) (hn : n + 600000 < 1000000000000) (hcr : 0 <= code /\ code < prodTo m.vars m.vars.length) (hcN : c < 2 ^ (aheadL l).length) (hzS : S.length <= 20000) (hzN : N.length <= 20000) (hzT : T.length <= 20000) :
    Calls Tryz.prog 22 #[.pointer (some ⟨A, 0, none⟩), .pointer (some ⟨B, 0, none⟩), .agg #[.int .i64 code, .int .i64 (c : Int)]] w (GoPost w0 base A lm B bs bl n va vr pv fv m ps l ho hc S N T init many code c) := by
  obtain ⟨hp0, hl0⟩ := tk_zero hk; obtain ⟨hm0, _⟩ := pcode_m hp0; obtain ⟨_, _, _, _, h6⟩ := lcode_zero hl0; have hpr := ((mcode_vars hm0).prod (Nat.le_refl m.vars.length)).2; have hI : -9223372036854775808 <= code /\ code <= 9223372036854775807 := by omega
  have hbl := behL_len (ps := ps) (c := (c : Int)) hm0 hcr h6; have hIs : ∀ j, j < (behL m ps l code (c : Int)).length -> I64s ((behL m ps l code (c : Int)).getD j (0, 0)) := fun j hj => spot_I64 hk (behL_spot hm0 hcr (c := (c : Int)) (ps := ps) (by rw [List.getD_eq_getElem?_getD, List.getElem?_eq_getElem hj]; exact List.getElem_mem _))
  have hw0 := wcode_yes hm0 hcr; obtain ⟨W1, hW1⟩ : ∃ W1, W1 = w.alloc (.cells #[.int .i64 code, .int .i64 (c : Int)] 55) := ⟨_, rfl⟩
  have hb1 : Below w.heap.size w W1 := by rw [hW1]; exact (Below.refl _ _).alloc (Nat.le_refl _) _
  have hs1 : W1.cell? ⟨w.heap.size, 0, none⟩ = some (.int .i64 code) /\ W1.cell? ⟨w.heap.size, 1, none⟩ = some (.int .i64 (c : Int)) := by rw [hW1]; constructor <;> simp [go_sem]
  have hX1 := hX.below hb1
  have hbe : Calls Tryz.prog 39 #[.pointer (some ⟨B, 0, none⟩), .agg #[.int .i64 code, .int .i64 (c : Int)]] W1 fun e w2 => ∃ so sc, e = .returned (.tuple #[.slice so (behL m ps l code (c : Int)).length sc, .int .i64 0]) /\ (w2.cell? ⟨w.heap.size, 0, none⟩ = some (.int .i64 code) /\ w2.cell? ⟨w.heap.size, 1, none⟩ = some (.int .i64 (c : Int))) /\ Hid (ExW w0 w2 base A lm B bs bl (n + 300000) va vr pv fv m ps l ho hc S N T init many sv nv tv /\ SpO w2 W1.heap.size (.slice so (behL m ps l code (c : Int)).length sc) (behL m ps l code (c : Int))) :=
    (behind_in w0 W1 B bs bl n va vr pv fv m ps l ho hc code c hI hB hT hV hk hX1.su (by omega) hcr hcN).mono fun e w2 ⟨h1, h2, h3⟩ => by
      rcases h3 with ⟨_, so, sc, h4, h5⟩ | ⟨h4, _⟩
      · exact ⟨so, sc, h4, ⟨h1.cell hX1.su.two hs1.1, h1.cell hX1.su.two hs1.2⟩, hX1.call h1 h2.out, h5.out⟩
      · exact absurd hw0 h4
  have HMe : Hid (∀ w2, ExW w0 w2 base A lm B bs bl (n + 300000) va vr pv fv m ps l ho hc S N T init many sv nv tv -> Calls Tryz.prog 40 #[.pointer (some ⟨B, 0, none⟩), .agg #[.int .i64 code, .int .i64 (c : Int)]] w2 fun e w3 => e = .returned (.tuple #[.int .i64 (metN l (letL m ps code) (c : Int)), .int .i64 0]) /\ Hid (ExW w0 w3 base A lm B bs bl (n + 300001) va vr pv fv m ps l ho hc S N T init many sv nv tv /\ ∀ so sc, SpO w2 W1.heap.size (.slice so (behL m ps l code (c : Int)).length sc) (behL m ps l code (c : Int)) -> SpO w3 W1.heap.size (.slice so (behL m ps l code (c : Int)).length sc) (behL m ps l code (c : Int)))) := fun w2 hx =>
    (meets_in w0 w2 B bs bl (n + 300000) va vr pv fv m ps l ho hc code c hI hB hT hV hk hx.su (by omega) hcr hcN).mono fun e w3 ⟨h1, h2, h3⟩ => ⟨h1, hx.call h2 h3.out, fun so sc h => h.sk h2 hx.su.two⟩
  have HPl : Hid (∀ w3 so sc, ExW w0 w3 base A lm B bs bl (n + 300001) va vr pv fv m ps l ho hc S N T init many sv nv tv -> SpO w3 W1.heap.size (.slice so (behL m ps l code (c : Int)).length sc) (behL m ps l code (c : Int)) -> Calls Tryz.prog 21 #[.pointer (some ⟨A, 0, none⟩), .slice so (behL m ps l code (c : Int)).length sc] w3.drew fun e w4 => e = .returned (.slice (some ⟨w3.heap.size, 0, none⟩) (behL m ps l code (c : Int)).length (behL m ps l code (c : Int)).length) /\ ∃ us sv', w4.cell? ⟨A, 2, none⟩ = some nv /\ (w4.alloc (.cells #[.slice (some ⟨w3.heap.size, 0, none⟩) (behL m ps l code (c : Int)).length (behL m ps l code (c : Int)).length] 46)).cell? ⟨A, 2, none⟩ = some nv /\ (w4.alloc (.cells #[.slice (some ⟨w3.heap.size, 0, none⟩) (behL m ps l code (c : Int)).length (behL m ps l code (c : Int)).length] 46)).ownsRow base 46 1 nv N.length us /\ base <= (w4.alloc (.cells #[.slice (some ⟨w3.heap.size, 0, none⟩) (behL m ps l code (c : Int)).length (behL m ps l code (c : Int)).length] 46)).heap.size /\ Hid (∀ g cap w9, World.ownsRow w9 base 46 1 (.slice (some ⟨g, 0, none⟩) (N.length + 1) cap) (N.length + 1) (us ++ [.slice (some ⟨w3.heap.size, 0, none⟩) (behL m ps l code (c : Int)).length (behL m ps l code (c : Int)).length]) -> (w4.alloc (.cells #[.slice (some ⟨w3.heap.size, 0, none⟩) (behL m ps l code (c : Int)).length (behL m ps l code (c : Int)).length] 46)).grownBy w9 nv.ownBlock -> (w9.cell? ⟨A, 2, none⟩ = some nv /\ w9.frozen? ⟨A, 2, none⟩ = false) /\ ExW w0 (w9.setCell ⟨A, 2, none⟩ (.slice (some ⟨g, 0, none⟩) (N.length + 1) cap)) base A lm B bs bl (n + 300001) va vr pv fv m ps l ho hc (plTo S (behL m ps l code (c : Int))) (N ++ [plIx S (behL m ps l code (c : Int))]) T init many sv' (.slice (some ⟨g, 0, none⟩) (N.length + 1) cap) tv)) := fun w3 so sc hx hsp => by
    have hbd : Below w3.heap.size w3 w3.drew := (Below.refl _ _).drew; have hx3 := hx.below hbd; have hsp3 := hsp.later hbd (Nat.le_refl _)
    have hsep : ∀ a, so = some a -> ¬ atZ A lm sv a.block := fun a e z => by
      have hge := owns_ge hsp a _ _ (by rw [e])
      rcases z with z | z | z
      · have := hX1.tl.lt; omega
      · have := hX1.tl.lies.lt; omega
      · have := (owns_ty hX1.tl.sp z).2.lt; omega
    refine (places_any w3.drew base A lm S N T init many sv nv tv _ so sc hx3.tl hsp3.v hsep hIs (by omega)).mono fun e w4 ⟨h1, sv', h2, h3, h4, h5, h6⟩ => ?_
    have hx4 := hx3.put h5 h2; have hba : Below w4.heap.size w4 (w4.alloc (.cells #[.slice (some ⟨w3.heap.size, 0, none⟩) (behL m ps l code (c : Int)).length (behL m ps l code (c : Int)).length] 46)) := (Below.refl _ _).alloc (Nat.le_refl _) _; have hx5 := hx4.below hba; obtain ⟨us, hus⟩ := id hx5.tl.nx; have hbs3 : base <= w3.heap.size := hx.tl.base_le
    refine ⟨h1, us, sv', (atB_cells hx4.tl.box).2.2.1, (atB_cells hx5.tl.box).2.2.1, hus.1, hx5.tl.base_le, fun g cap w9 g1 g2 => ⟨?_, ?_⟩⟩
    · have hbx : w9.heap[A]? = some (atB sv' nv tv init many lm) := (g2.block A hx5.tl.lt fun e => by have := hx5.tl.ty.eq (owns_ty hus.1 e.symm).2; exact absurd this (by decide)).trans hx5.tl.box
      exact ⟨(atB_cells hbx).2.2.1, atB_free hbx 2⟩
    · have e : (behL m ps l code (c : Int)).length = (plIx S (behL m ps l code (c : Int))).length := (plIx_len _ _).symm
      have hr5 := h3.below hba; have ht5 := h4.below hba; have hr6 : IntsV (w4.alloc (.cells #[.slice (some ⟨w3.heap.size, 0, none⟩) (behL m ps l code (c : Int)).length (behL m ps l code (c : Int)).length] 46)) (.slice (some ⟨w3.heap.size, 0, none⟩) (plIx S (behL m ps l code (c : Int))).length (behL m ps l code (c : Int)).length) (plIx S (behL m ps l code (c : Int))) := by rw [<- e]; exact hr5
      have ht6 : RowTy (w4.alloc (.cells #[.slice (some ⟨w3.heap.size, 0, none⟩) (behL m ps l code (c : Int)).length (behL m ps l code (c : Int)).length] 46)) (.slice (some ⟨w3.heap.size, 0, none⟩) (plIx S (behL m ps l code (c : Int))).length (behL m ps l code (c : Int)).length) 3 := by rw [<- e]; exact ht5
      refine hx5.appN hus hr6 ht6 (fun a ea => ?_) g2 (by rw [<- e]; exact g1)
      injection ea with ea
      subst ea; refine ⟨fun e2 => ?_, hbs3⟩
      have := (owns_ty hx.tl.st e2).2.lt; simp only at this
      omega
  clear hX hX1 hT hV hk hp0 hl0 hm0 hIs hw0; unfold GoPost; generalize behL m ps l code (c : Int) = beh at *; generalize metN l (letL m ps code) (c : Int) = mt at *; have HPn : Hid (∀ w' sv nv tv N T n, ExW w0 w' base A lm B bs bl n va vr pv fv m ps l ho hc (plTo S beh) N T init many sv nv tv -> ∃ vo vc, sv = .slice vo (plTo S beh).length vc) := fun w' sv nv tv N T n h => h.tl.sp.shape
  have hpn : (plTo S beh).length <= 300000 := by have := (plTo_length beh S).2; omega
  generalize plTo S beh = PS at *; generalize plIx S beh = PI at *; generalize hbn : beh.length = bn at *; have HTs : Hid (∀ w' sv nv n S N, ExW w0 w' base A lm B bs bl n va vr pv fv m ps l ho hc S N T init many sv nv tv -> ∃ xo xc, tv = .slice xo T.length xc) := fun w' sv nv n S N h => owns_slice h.tl.st
  have HNs : Hid (∀ w', ExW w0 w' base A lm B bs bl (n + 300000) va vr pv fv m ps l ho hc S N T init many sv nv tv -> ∃ xo xc, nv = .slice xo N.length xc) := fun w' h => by
    obtain ⟨us, h1, _⟩ := h.tl.nx; exact owns_slice h1
  obtain ⟨i0, hi, hz0, hz1, hz2⟩ := info_parts infoIL; obtain ⟨j0, hj, jz0, jz1, jz2⟩ := info_parts infoInt
  go_enter Tryz.func22, Tryz.ntmps22
  go_upto_region 7 with (first | (go_at_call 39; rw [<- hW1]; refine hbe.mono ?_; rintro e w2 ⟨so, sc, rfl, ⟨b0, b1⟩, HX2⟩; have hme := HMe.out w2 HX2.out.1) | (go_at_call 40; refine hme.mono ?_; rintro e w3 ⟨rfl, HX3⟩))
  have hpl := HPl.out w3 so sc HX3.out.1 (HX3.out.2 so sc HX2.out.2); have a2 : w3.cell? ⟨A, 2, none⟩ = some nv := (atB_cells HX3.out.1.tl.box).2.2.1; obtain ⟨no, nc, rfl⟩ := HNs.out w2 HX2.out.1; clear hbe hme HMe HPl HX2 HX3 HNs hs1 b0 b1
  go_cut [] (fun wx => ∃ sv' nv', Hid (ExW w0 wx base A lm B bs bl (n + 300001) va vr pv fv m ps l ho hc PS (N ++ [PI]) T init many sv' nv' tv))
  case first =>
    go_region_law (first
      | (refine step_append_lies _ (by rfl) (.tmp 33) (.tmp 37) 45 (by rfl) base 46 i0 _ 1 24 Tryz.underlying45 hi hz0 hz1 hz2 (by rfl) (by decide) (.slice no N.length nc) N.length us (by rfl) hown4 ⟨w4.heap.size, 0, none⟩ 1 1 [.slice (some ⟨w3.heap.size, 0, none⟩) bn bn] (by rfl) (by rfl) (cell_one_new _ _ _) (by intro u hu; simp at hu; subst hu; rfl) (by decide) (by unfold maxLen; omega) (by omega) hba4 _ rfl ?_; intro g9 cap9 w9 hown hgrow hat hlt9; obtain ⟨⟨z0, zf⟩, hx9⟩ := HN4.out g9 cap9 w9 hown hgrow; have HX9 := (show Hid _ from hx9); clear hx9 hown hgrow hat)
      | (go_simp; go_at_call 21; refine hpl.mono ?_; rintro e w4 ⟨rfl, us, sv4, y0, y1, hown4, hba4, HN4⟩))
    all_goals go_wp2_with fail
    all_goals go_meet
    all_goals exact ⟨_, _, HX9⟩
  case rest =>
    obtain ⟨sv5, nv5, HX5⟩ := hcut; obtain ⟨xo, xc, rfl⟩ := HTs.out wc sv5 nv5 _ PS _ HX5.out; obtain ⟨vo5, vc5, rfl⟩ := HPn.out wc _ _ _ _ _ _ HX5.out; have hba : Below wc.heap.size wc (wc.alloc (.cells #[.int .i64 mt] 3)) := (Below.refl _ _).alloc (Nat.le_refl _) _; have hx6 := HX5.out.below hba
    have hown6 : World.ownsRow (wc.alloc (.cells #[.int .i64 mt] 3)) base 3 1 (.slice xo T.length xc) T.length (ivals T) := hx6.tl.st; have hbs6 := hx6.tl.base_le; have a3 : wc.cell? ⟨A, 3, none⟩ = some (.slice xo T.length xc) := (atB_cells HX5.out.tl.box).2.2.2.1
    have HT6 : Hid (∀ g cap w9, World.ownsRow w9 base 3 1 (.slice (some ⟨g, 0, none⟩) (T.length + 1) cap) (T.length + 1) (ivals T ++ [.int .i64 mt]) -> (wc.alloc (.cells #[.int .i64 mt] 3)).grownBy w9 (Value.slice xo T.length xc).ownBlock -> ((Value.slice xo T.length xc).ownBlock = some g \/ g = (wc.alloc (.cells #[.int .i64 mt] 3)).heap.size) -> (w9.cell? ⟨A, 3, none⟩ = some (.slice xo T.length xc) /\ w9.frozen? ⟨A, 3, none⟩ = false) /\ (w9.setCell ⟨A, 3, none⟩ (.slice (some ⟨g, 0, none⟩) (T.length + 1) cap)).cell? ⟨A, 0, none⟩ = some (.slice vo5 PS.length vc5) /\ Hid (ExW w0 (w9.setCell ⟨A, 3, none⟩ (.slice (some ⟨g, 0, none⟩) (T.length + 1) cap)) base A lm B bs bl (n + 300001) va vr pv fv m ps l ho hc PS (N ++ [PI]) (T ++ [mt]) init many (.slice vo5 PS.length vc5) nv5 (.slice (some ⟨g, 0, none⟩) (T.length + 1) cap))) := fun g cap w9 h1 h2 h3 => by
      have hbx : w9.heap[A]? = some (atB (.slice vo5 PS.length vc5) nv5 (.slice xo T.length xc) init many lm) := (h2.block A hx6.tl.lt fun e => by have := hx6.tl.ty.eq (owns_ty hx6.tl.st e.symm).2; exact absurd this (by decide)).trans hx6.tl.box
      have hxx := hx6.appT h2 h1 (by
        rcases h3 with h | h
        · exact .inl (by rw [h]; rfl)
        · exact .inr ⟨g, rfl, by omega⟩)
      exact ⟨⟨(atB_cells hbx).2.2.2.1, atB_free hbx 3⟩, (atB_cells hxx.tl.box).1, hxx⟩
    clear hx6 HX5 HTs HPn
    by_cases hfull : 20000 < PS.length
    · have hfi : (20000 : Int) < (PS.length : Int) := by omega
      go_wp2_with (first | (at_builtin; refine wpList_append_lies _ rfl (.tmp 47) (.tmp 49) 46 rfl base 3 j0 _ 1 8 Tryz.underlying46 hj jz0 jz1 jz2 rfl (by decide) (.slice xo T.length xc) T.length (ivals T) rfl hown6 ⟨wc.heap.size, 0, none⟩ 1 1 [.int .i64 mt] rfl rfl (cell_one_new _ _ _) (by intro u hu; simp at hu; subst hu; rfl) (by decide) (by unfold maxLen; omega) (by omega) hbs6 _ rfl ?_; intro g9 cap9 w9 hown hgrow hat hlt9; obtain ⟨⟨z0, zf⟩, z1, HX9⟩ := HT6.out g9 cap9 w9 hown hgrow hat; clear hown hgrow hat))
      go_ret
      exact ⟨by first | rfl | simp [hfull], _, _, _, HX9⟩
    · have hfi : ¬ (20000 : Int) < (PS.length : Int) := by omega
      go_wp2_with (first | (at_builtin; refine wpList_append_lies _ rfl (.tmp 47) (.tmp 49) 46 rfl base 3 j0 _ 1 8 Tryz.underlying46 hj jz0 jz1 jz2 rfl (by decide) (.slice xo T.length xc) T.length (ivals T) rfl hown6 ⟨wc.heap.size, 0, none⟩ 1 1 [.int .i64 mt] rfl rfl (cell_one_new _ _ _) (by intro u hu; simp at hu; subst hu; rfl) (by decide) (by unfold maxLen; omega) (by omega) hbs6 _ rfl ?_; intro g9 cap9 w9 hown hgrow hat hlt9; obtain ⟨⟨z0, zf⟩, z1, HX9⟩ := HT6.out g9 cap9 w9 hown hgrow hat; clear hown hgrow hat))
      go_ret
      exact ⟨by first | rfl | simp [hfull], _, _, _, HX9⟩
variable {Pz : Nat -> Prop}
theorem SvOk.made {w0 w w' : World} {n : Nat} {va vr pv fv : Value} {m : Mo} {ps : List (List (Int × Int))} {l : List (Int × Int)} {ho : Option Addr} {hc : Nat} (hb : Below w0.heap.size w0 w) (hb2 : Below w.heap.size w w') (hn : w.heap.size <= n) (hs : SurvAt w' (n + 2) va vr pv fv (.slice ho (aheadL l).length hc) n (n + 1))
    (ho' : w'.ownsRow w.heap.size 3 1 (.slice ho (aheadL l).length hc) (aheadL l).length (ivals (aheadL l))) (h1 : w'.heap[n]? = some (.map #[] 0)) (h2 : w'.heap[n + 1]? = some (.map #[] 0)) : SvOk (fun _ => True) w0 w' (n + 2) n (n + 1) 0 va vr pv fv m ps l ho hc := by
  have := hb.size; exact ⟨hs, hb.trans (hb2.mono hb.size), by omega, by omega, by omega, intsV_of_owns ho', RowTy.owns ho', fun _ _ => trivial, fun _ _ => trivial, ⟨_, MapIs.new _ h1, fun kl v h => by simp at h⟩, ⟨_, MapIs.new _ h2, fun kl v h => by simp at h⟩⟩
end Go.Proofs.YtobopjjmhginlabGreatDoor
namespace Go.Proofs.YtobopjjmhginlabGreatDoor
open Go.ChangeShapes Go.WideShapes Go.ChangeAt Go.RowKit Go.Deep Go.Maps
open Terms Tm
set_option maxHeartbeats 6400000
set_option maxRecDepth 20000
def spOk (m : Mo) (l : List (Int × Int)) (p : Int × Int) : Prop := (0 <= p.1 /\ p.1 < prodTo m.vars m.vars.length) /\ ∃ d : Nat, d < 2 ^ (aheadL l).length /\ p.2 = (d : Int)
noncomputable def xpBh (m : Mo) (ps : List (List (Int × Int))) (l : List (Int × Int)) (p : Int × Int) : List (Int × Int) := behL m ps l p.1 p.2
noncomputable def xpP (m : Mo) (ps : List (List (Int × Int))) (l : List (Int × Int)) (k : Nat) : List (Int × Int) := exS (begL m ps l) (xpBh m ps l) k
noncomputable def xpAt (m : Mo) (ps : List (List (Int × Int))) (l : List (Int × Int)) (k : Nat) : Int × Int := (xpP m ps l k).getD k (0, 0)
noncomputable def xpN (m : Mo) (ps : List (List (Int × Int))) (l : List (Int × Int)) : Nat -> List (List Int)
  | 0 => []
  | k + 1 => xpN m ps l k ++ [plIx (xpP m ps l k) (xpBh m ps l (xpAt m ps l k))]
noncomputable def xpT (m : Mo) (ps : List (List (Int × Int))) (l : List (Int × Int)) : Nat -> List Int
  | 0 => []
  | k + 1 => xpT m ps l k ++ [metN l (letL m ps (xpAt m ps l k).1) (xpAt m ps l k).2]
section
variable {m : Mo} {ps : List (List (Int × Int))} {l : List (Int × Int)}
theorem xpP_succ (k : Nat) : xpP m ps l (k + 1) = plTo (xpP m ps l k) (xpBh m ps l (xpAt m ps l k)) := rfl
theorem xpN_len : ∀ k, (xpN m ps l k).length = k
  | 0 => rfl
  | k + 1 => by rw [xpN, List.length_append, xpN_len k]; rfl
theorem xpT_len : ∀ k, (xpT m ps l k).length = k
  | 0 => rfl
  | k + 1 => by rw [xpT, List.length_append, xpT_len k]; rfl
theorem xbg_mem {p : Int × Int} : ∀ k, p ∈ begTo m ps l k -> p.1 = begC m /\ ∃ d : Nat, d < k /\ p.2 = (d : Int) /\ tru l (letL m ps (begC m)) (d : Int) 0 ≠ true
  | 0, h => by simp [begTo] at h
  | k + 1, h => by
    rw [begTo] at h
    split at h
    · obtain ⟨h1, d, h2, h3⟩ := xbg_mem k h
      exact ⟨h1, d, by omega, h3⟩
    · next hf =>
      rw [List.mem_append, List.mem_singleton] at h
      rcases h with h | rfl
      · obtain ⟨h1, d, h2, h3⟩ := xbg_mem k h
        exact ⟨h1, d, by omega, h3⟩
      · exact ⟨rfl, k, by omega, rfl, hf⟩
theorem begL_spot (hk : tkcode m ps l = 0) {p : Int × Int} (h : p ∈ begL m ps l) : spOk m l p := by
  obtain ⟨h1, d, h2, h3, _⟩ := xbg_mem _ h; exact ⟨by rw [h1]; exact tk_beg hk, d, h2, h3⟩
theorem xpBh_spot (hk : tkcode m ps l = 0) {s p : Int × Int} (hs : spOk m l s) (h : p ∈ xpBh m ps l s) : spOk m l p := behL_spot (pcode_m (tk_zero hk).1).1 hs.1 h
theorem xpP_zero (hk : tkcode m ps l = 0) : ∀ p ∈ xpP m ps l 0, spOk m l p := fun p hp => by
  rcases (plTo_iff _ _ _).1 hp with h | h
  · exact absurd h List.not_mem_nil
  · exact begL_spot hk h
theorem xpAt_mem {k : Nat} (h : k < (xpP m ps l k).length) : xpAt m ps l k ∈ xpP m ps l k := by
  unfold xpAt; rw [List.getD_eq_getElem?_getD, List.getElem?_eq_getElem h]
  exact List.getElem_mem _
theorem xpP_next (hk : tkcode m ps l = 0) {k : Nat} (hl : k < (xpP m ps l k).length) (h : ∀ p ∈ xpP m ps l k, spOk m l p) : ∀ p ∈ xpP m ps l (k + 1), spOk m l p := fun p hp => by
  rw [xpP_succ] at hp
  rcases (plTo_iff _ _ _).1 hp with h1 | h1
  · exact h p h1
  · exact xpBh_spot hk (h _ (xpAt_mem hl)) h1
end
def ExDone (m : Mo) (ps : List (List (Int × Int))) (l : List (Int × Int)) (K : Nat) : Prop := (xpP m ps l K).length = K /\ K <= 20000 /\ (∀ j, j < K -> j < (xpP m ps l j).length) /\ ∀ p ∈ xpP m ps l K, spOk m l p
def ExFull (m : Mo) (ps : List (List (Int × Int))) (l : List (Int × Int)) : Prop := ∃ k, (∀ j, j <= k -> j < (xpP m ps l j).length) /\ 20000 < (xpP m ps l (k + 1)).length
def GrX (w : World) (base : Nat) (m : Mo) (ps : List (List (Int × Int))) (l : List (Int × Int)) (K : Nat) (sv nv tv : Value) : Prop := SpO w base sv (xpP m ps l K) /\ LsAt w base nv tv (xpN m ps l K) /\ w.ownsRow base 3 1 tv (xpT m ps l K).length (ivals (xpT m ps l K))
def ExAns (w : World) (m : Mo) (ps : List (List (Int × Int))) (l : List (Int × Int)) (e : Ending) (w' : World) : Prop :=
  (tkcode m ps l = 0 /\ ∃ K, ExDone m ps l K /\ ∃ sv nv tv, e = .returned (.tuple #[.agg #[sv, .int .i64 ((begL m ps l).length : Nat), nv, tv, .int .i64 ((aheadL l).length : Nat)], .int .i64 0]) /\ Below w.heap.size w w' /\ Hid (GrX w' w.heap.size m ps l K sv nv tv)) \/
  (tkcode m ps l = 0 /\ ExFull m ps l /\ e = .returned (.tuple #[.agg #[.slice none 0 0, .int .i64 0, .slice none 0 0, .slice none 0 0, .int .i64 0], .int .i64 12]) /\ Below w.heap.size w w') \/
  (tkcode m ps l ≠ 0 /\ e = .returned (.tuple #[.agg #[.slice none 0 0, .int .i64 0, .slice none 0 0, .slice none 0 0, .int .i64 0], .int .i64 (tkcode m ps l)]) /\ Below w.heap.size w w')
def grB (sv nv tv : Value) (init many : Int) : Obj := .cells #[sv, .int .i64 init, nv, tv, .int .i64 many] 48 (0, 0)
section
variable {w w' : World} {X : Nat} {sv nv tv : Value} {init many : Int}
theorem grB_cells (hb : w.heap[X]? = some (grB sv nv tv init many)) : w.cell? ⟨X, 0, none⟩ = some sv /\ w.cell? ⟨X, 1, none⟩ = some (.int .i64 init) /\ w.cell? ⟨X, 2, none⟩ = some nv /\ w.cell? ⟨X, 3, none⟩ = some tv /\ w.cell? ⟨X, 4, none⟩ = some (.int .i64 many) := by
  unfold grB at hb; refine ⟨?_, ?_, ?_, ?_, ?_⟩ <;> simp [World.cell?, hb]
theorem grB_free (hb : w.heap[X]? = some (grB sv nv tv init many)) (i : Nat) : w.frozen? ⟨X, i, none⟩ = false := by
  unfold grB at hb; simp [World.frozen?, hb]
theorem chg_box (w : World) (X : Nat) (a b c d e : Value) : Chg (fun i => i = X) w (((((w.setCell ⟨X, 0, none⟩ a).setCell ⟨X, 1, none⟩ b).setCell ⟨X, 2, none⟩ c).setCell ⟨X, 3, none⟩ d).setCell ⟨X, 4, none⟩ e) :=
  (((((Chg.setCell w ⟨X, 0, none⟩ a).trans (Chg.setCell _ ⟨X, 1, none⟩ b)).trans (Chg.setCell _ ⟨X, 2, none⟩ c)).trans (Chg.setCell _ ⟨X, 3, none⟩ d)).trans (Chg.setCell _ ⟨X, 4, none⟩ e))
theorem GrX.chg {base K : Nat} {m : Mo} {ps : List (List (Int × Int))} {l : List (Int × Int)} (h : GrX w base m ps l K sv nv tv) (hs : Chg (fun i => i = X) w w') (ht : TyB w X 48) : GrX w' base m ps l K sv nv tv := by
  obtain ⟨h1, h2, h3⟩ := h; obtain ⟨us, n1, _⟩ := id h2; have hno : ∀ g t, TyB w g t -> t ≠ 48 -> g ≠ X := fun g t hg hn e => hn (hg.eq (e ▸ ht))
  exact ⟨owns_chg h1 hs (fun g e => hno g _ (owns_ty h1 e).2 (by decide)), h2.chg hs (fun i z => ⟨fun e => hno i _ (owns_ty n1 e).2 (by decide) z, fun _ _ _ _ _ hi => hno i _ hi (by decide) z⟩), owns_chg h3 hs (fun g e => hno g _ (owns_ty h3 e).2 (by decide))⟩
theorem LsAt.mono {base base' : Nat} {N : List (List Int)} (h : LsAt w base nv tv N) (hb : base' <= base) : LsAt w base' nv tv N := by
  obtain ⟨us, h1, h2, h3⟩ := h; refine ⟨us, owns_mono h1 hb, h2, fun i hi => ?_⟩
  obtain ⟨ao, c, e1, e2, e3, e4⟩ := h3 i hi; exact ⟨ao, c, e1, e2, e3, fun a e => ⟨(e4 a e).1, Nat.le_trans hb (e4 a e).2⟩⟩
end
end Go.Proofs.YtobopjjmhginlabGreatDoor
namespace Go.Proofs.YtobopjjmhginlabGreatDoor
open Go.ChangeShapes Go.WideShapes Go.ChangeAt Go.RowKit Go.Deep
open Terms
set_option maxHeartbeats 6400000
set_option maxRecDepth 20000
end Go.Proofs.YtobopjjmhginlabGreatDoor
namespace Go.Proofs.YtobopjjmhginlabGreatDoor.Terms
namespace Tm
set_option maxHeartbeats 6400000
set_option maxRecDepth 20000
def ho (σ : Nat -> Nat -> Bool) : Tm -> Nat -> Prop
  | leaf k v => fun i => if k = 13 then σ i v.toNat = true else k = 11
  | un k _ a => fun i => if k = 10 then ¬ ho σ a i else if k = 14 then ho σ a (i + 1) else if k = 17 then ∃ j, i <= j /\ ho σ a j else ∀ j, i <= j -> ho σ a j
  | bi k _ a b => fun i => if k = 8 then ho σ a i /\ ho σ b i else if k = 9 then ho σ a i \/ ho σ b i else if k = 15 then ∃ j, i <= j /\ ho σ b j /\ ∀ m, i <= m -> m < j -> ho σ a m else ∀ j, i <= j -> ho σ b j \/ ∃ m, i <= m /\ m < j /\ ho σ a m
open Classical in
noncomputable def hb (σ : Nat -> Nat -> Bool) (t : Tm) (i : Nat) : Bool := decide (ho σ t i)
end Tm
namespace Tm
end Tm
end Go.Proofs.YtobopjjmhginlabGreatDoor.Terms
namespace Go.Proofs.YtobopjjmhginlabGreatDoor.Terms
namespace Tm
set_option maxHeartbeats 6400000
set_option maxRecDepth 20000
end Tm
def letBad (props : Int) (ls : List (List Bool)) : Bool := ls.any fun l => decide ((l.length : Int) ≠ props)
def wdcode (props : Int) (ss ll : List (List Bool)) : Int :=
  if props < 0 \/ 6 < props then 2 else if 12 < ss.length \/ ll.length < 1 \/ 12 < ll.length then 1 else if letBad props (ss ++ ll) = true then 3 else 0
theorem wcode_range {props : Int} {ss ll : List (List Bool)} (h : props < 0 \/ 6 < props) : wdcode props ss ll = 2 := by unfold wdcode; rw [if_pos h]
theorem wcode_size {props : Int} {ss ll : List (List Bool)} (h : ¬ (props < 0 \/ 6 < props)) (h2 : 12 < ss.length \/ ll.length < 1 \/ 12 < ll.length) : wdcode props ss ll = 1 := by unfold wdcode; rw [if_neg h, if_pos h2]
theorem wcode_form {props : Int} {ss ll : List (List Bool)} (h : ¬ (props < 0 \/ 6 < props)) (h2 : ¬ (12 < ss.length \/ ll.length < 1 \/ 12 < ll.length)) (h3 : letBad props (ss ++ ll) = true) : wdcode props ss ll = 3 := by unfold wdcode; rw [if_neg h, if_neg h2, if_pos h3]
theorem letBad_at {props : Int} {ls : List (List Bool)} {i : Nat} (hi : i < ls.length) (h : ((ls.getD i []).length : Int) ≠ props) : letBad props ls = true := by
  unfold letBad; rw [List.any_eq_true]; refine ⟨ls.getD i [], ?_, by simpa using h⟩
  rw [List.getD_eq_getElem?_getD, List.getElem?_eq_getElem hi]
  exact List.getElem_mem hi
theorem wcode_zero {props : Int} {ss ll : List (List Bool)} (h : wdcode props ss ll = 0) : (0 <= props /\ props <= 6) /\ ss.length <= 12 /\ 1 <= ll.length /\ ll.length <= 12 /\ ∀ i, i < (ss ++ ll).length -> (((ss ++ ll).getD i []).length : Int) = props := by
  by_cases hr : props < 0 \/ 6 < props
  · rw [wcode_range hr] at h; omega
  · by_cases hs : 12 < ss.length \/ ll.length < 1 \/ 12 < ll.length
    · rw [wcode_size hr hs] at h; omega
    · cases hb : letBad props (ss ++ ll) with
      | true => rw [wcode_form hr hs hb] at h; omega
      | false =>
        refine ⟨by omega, by omega, by omega, by omega, fun i hi => ?_⟩
        exact Classical.byContradiction fun hn => by rw [letBad_at hi hn] at hb; cases hb
end Go.Proofs.YtobopjjmhginlabGreatDoor.Terms
namespace Go.Proofs.YtobopjjmhginlabGreatDoor
open Terms
set_option maxHeartbeats 6400000
set_option maxRecDepth 20000
theorem op_at {T : Tm} {l : List (Int × Int)} (ho : T.ops = l) {q : Nat} (hq : q < T.size) : l.getD q (0, 0) = ((T.sub q).kind, (T.sub q).val) := by
  obtain ⟨r, hr⟩ := Tm.sub_drop T q hq; rw [ho] at hr; have h0 : l.getD q (0, 0) = (l.drop q).getD 0 (0, 0) := by simp [List.getD_eq_getElem?_getD]
  rw [h0, hr, <- Tm.ops_head (T.sub q) (0, 0)]; have hne := Tm.ops_ne (T.sub q)
  cases hx : (T.sub q).ops with
  | nil => exact absurd hx hne
  | cons x s => simp
end Go.Proofs.YtobopjjmhginlabGreatDoor
namespace Go.Proofs.YtobopjjmhginlabGreatDoor
open Go.ChangeShapes Go.WideShapes Go.ChangeAt Go.RowKit Go.Deep
open Terms
set_option maxHeartbeats 6400000
set_option maxRecDepth 20000
inductive ForT (props : Int) : Nat -> List (Int × Int) -> Prop
  | prop (v : Int) : 0 <= v -> v < props -> ForT props 0 [(13, v)]
  | not (m : Nat) (a : List (Int × Int)) : ForT props m a -> ForT props m ((10, 0) :: a)
  | bin (m n : Nat) (k : Int) (a b : List (Int × Int)) : 8 <= k -> k <= 9 -> ForT props m a -> ForT props n b -> ForT props (m + n) ((k, 0) :: (a ++ b))
  | tun (m : Nat) (k : Int) (a : List (Int × Int)) : k = 14 \/ k = 17 \/ k = 18 -> ForT props m a -> ForT props (m + 1) ((k, 0) :: a)
  | tbi (m n : Nat) (k : Int) (a b : List (Int × Int)) : 15 <= k -> k <= 16 -> ForT props m a -> ForT props n b -> ForT props (m + n + 1) ((k, 0) :: (a ++ b))
theorem GrownAt.factsF {w : World} {G : Nat} {rawv : Value} {at' : Nat} {vars props tempo : Int} {l : List (Int × Int)} (h : GrownAt w G rawv at' vars props tempo l) :
    w.cell? ⟨G, 1, none⟩ = some (.int .i64 at') /\ w.cell? ⟨G, 3, none⟩ = some (.int .i64 props) /\ w.cell? ⟨G, 4, none⟩ = some (.int .i64 tempo) /\ w.frozen? ⟨G, 4, none⟩ = false /\ G < w.heap.size := by
  obtain ⟨outv, hh, ho⟩ := h; obtain ⟨_, a, b, _, f, c⟩ := gcells hh; exact ⟨a, by simp [World.cell?, hh], by simp [World.cell?, hh], f 4, c⟩
theorem GrownAt.setTempo {w : World} {G : Nat} {rawv : Value} {at' : Nat} {vars props tempo : Int} {l : List (Int × Int)} (h : GrownAt w G rawv at' vars props tempo l) (n : Int) : GrownAt (w.setCell ⟨G, 4, none⟩ (.int .i64 n)) G rawv at' vars props n l := by
  obtain ⟨outv, hh, ho⟩ := h; refine ⟨outv, by simp [World.setCell, Array.getElem?_modify, hh], ?_⟩
  exact ownsRow_setCell_below ho (by simp) _
def GrewF (G : Nat) (rawv : Value) (at' : Nat) (vars props : Int) (tempo : Nat) (l : List (Int × Int)) (d : Nat) (w : World) (e : Ending) (w' : World) : Prop :=
  ∃ t m, e = .returned (.tuple #[]) /\ ForT props m t /\ m <= tempo /\ (at' + t.length <= at' + 1 \/ at' + t.length <= 13 + d) /\ t.length + 1 <= 2 ^ (d + 1) /\ GrownAt w' G rawv (at' + t.length) vars props ((tempo - m : Nat) : Int) (l ++ t) /\ Below G w w'
theorem two_le (d : Nat) : 2 <= 2 ^ (d + 1) := by
  have : 2 ^ (d + 1) = 2 * 2 ^ d := by rw [Nat.pow_succ, Nat.mul_comm]
  have : 0 < 2 ^ d := Nat.two_pow_pos d; omega
theorem prop_end {G : Nat} {rawv : Value} {at' : Nat} {vars props : Int} {tempo : Nat} {q : Int} {l : List (Int × Int)} {d : Nat} {w w5 : World} (h0 : 0 <= q) (h1 : q < props) (hb : Below G w w5) (hg : GrownAt w5 G rawv (at' + 1) vars props (tempo : Int) (l ++ [(13, q)])) : GrewF G rawv at' vars props tempo l d w (.returned (.tuple #[])) w5 :=
  ⟨[(13, q)], 0, rfl, .prop _ h0 h1, Nat.zero_le _, .inl (by simp), by have := two_le d; simpa using this, by simpa using hg, hb⟩
theorem notF_end {G : Nat} {rawv : Value} {at' : Nat} {vars props : Int} {tempo m : Nat} {l : List (Int × Int)} {d : Nat} {w w5 : World} {ta : List (Int × Int)} (hta : ForT props m ta) (hm : m <= tempo)
    (hn : at' + 1 + ta.length <= 13 + (d + 1)) (h2 : ta.length + 1 <= 2 ^ (d + 1)) (hb : Below G w w5) (hg : GrownAt w5 G rawv (at' + 1 + ta.length) vars props ((tempo - m : Nat) : Int) (l ++ [(10, 0)] ++ ta)) : GrewF G rawv at' vars props tempo l (d + 1) w (.returned (.tuple #[])) w5 := by
  have e1 : at' + ((10, (0 : Int)) :: ta : List (Int × Int)).length = at' + 1 + ta.length := by simp; omega
  have e2 : l ++ (10, (0 : Int)) :: ta = l ++ [(10, 0)] ++ ta := by simp
  have e3 : 2 ^ (d + 1 + 1) = 2 * 2 ^ (d + 1) := by rw [Nat.pow_succ, Nat.mul_comm]
  refine ⟨(10, 0) :: ta, m, rfl, .not _ _ hta, hm, ?_, ?_, ?_, hb⟩
  · rw [e1]; omega
  · simp only [List.length_cons]; rw [e3]; omega
  · rw [e1, e2]; exact hg
theorem binF_end {G : Nat} {rawv : Value} {at' : Nat} {vars props : Int} {tempo m n : Nat} {K : Int} {l : List (Int × Int)} {d : Nat} {w w5 : World} {ta tb : List (Int × Int)} (hta : ForT props m ta) (htb : ForT props n tb) (h8 : 8 <= K) (h9 : K <= 9) (hm : m <= tempo) (hn' : n <= tempo - m)
    (hn : at' + 1 + ta.length + tb.length <= 13 + (d + 1)) (h2 : ta.length + 1 <= 2 ^ (d + 1)) (h3 : tb.length + 1 <= 2 ^ (d + 1)) (hb : Below G w w5) (hg : GrownAt w5 G rawv (at' + 1 + ta.length + tb.length) vars props ((tempo - m - n : Nat) : Int) (l ++ [(K, 0)] ++ ta ++ tb)) : GrewF G rawv at' vars props tempo l (d + 1) w (.returned (.tuple #[])) w5 := by
  have e1 : at' + ((K, (0 : Int)) :: (ta ++ tb)).length = at' + 1 + ta.length + tb.length := by simp; omega
  have e2 : l ++ (K, (0 : Int)) :: (ta ++ tb) = l ++ [(K, 0)] ++ ta ++ tb := by simp
  have e3 : 2 ^ (d + 1 + 1) = 2 * 2 ^ (d + 1) := by rw [Nat.pow_succ, Nat.mul_comm]
  refine ⟨(K, 0) :: (ta ++ tb), m + n, rfl, .bin _ _ _ _ _ h8 h9 hta htb, by omega, ?_, ?_, ?_, hb⟩
  · rw [e1]; omega
  · simp only [List.length_cons, List.length_append]; rw [e3]; omega
  · rw [e1, e2, show tempo - (m + n) = tempo - m - n by omega]; exact hg
theorem tunF_end {G : Nat} {rawv : Value} {at' : Nat} {vars props : Int} {tempo m : Nat} {K : Int} {l : List (Int × Int)} {d : Nat} {w w5 : World} {ta : List (Int × Int)} (hta : ForT props m ta) (hK : K = 14 \/ K = 17 \/ K = 18) (ht : 0 < tempo) (hm : m <= tempo - 1)
    (hn : at' + 1 + ta.length <= 13 + (d + 1)) (h2 : ta.length + 1 <= 2 ^ (d + 1)) (hb : Below G w w5) (hg : GrownAt w5 G rawv (at' + 1 + ta.length) vars props ((tempo - 1 - m : Nat) : Int) (l ++ [(K, 0)] ++ ta)) : GrewF G rawv at' vars props tempo l (d + 1) w (.returned (.tuple #[])) w5 := by
  have e1 : at' + ((K, (0 : Int)) :: ta : List (Int × Int)).length = at' + 1 + ta.length := by simp; omega
  have e2 : l ++ (K, (0 : Int)) :: ta = l ++ [(K, 0)] ++ ta := by simp
  have e3 : 2 ^ (d + 1 + 1) = 2 * 2 ^ (d + 1) := by rw [Nat.pow_succ, Nat.mul_comm]
  refine ⟨(K, 0) :: ta, m + 1, rfl, .tun _ _ _ hK hta, by omega, ?_, ?_, ?_, hb⟩
  · rw [e1]; omega
  · simp only [List.length_cons]; rw [e3]; omega
  · rw [e1, e2, show tempo - (m + 1) = tempo - 1 - m by omega]; exact hg
theorem tbiF_end {G : Nat} {rawv : Value} {at' : Nat} {vars props : Int} {tempo m n : Nat} {K : Int} {l : List (Int × Int)} {d : Nat} {w w5 : World} {ta tb : List (Int × Int)} (hta : ForT props m ta) (htb : ForT props n tb) (h8 : 15 <= K) (h9 : K <= 16) (ht : 0 < tempo) (hm : m <= tempo - 1) (hn' : n <= tempo - 1 - m)
    (hn : at' + 1 + ta.length + tb.length <= 13 + (d + 1)) (h2 : ta.length + 1 <= 2 ^ (d + 1)) (h3 : tb.length + 1 <= 2 ^ (d + 1)) (hb : Below G w w5) (hg : GrownAt w5 G rawv (at' + 1 + ta.length + tb.length) vars props ((tempo - 1 - m - n : Nat) : Int) (l ++ [(K, 0)] ++ ta ++ tb)) : GrewF G rawv at' vars props tempo l (d + 1) w (.returned (.tuple #[])) w5 := by
  have e1 : at' + ((K, (0 : Int)) :: (ta ++ tb)).length = at' + 1 + ta.length + tb.length := by simp; omega
  have e2 : l ++ (K, (0 : Int)) :: (ta ++ tb) = l ++ [(K, 0)] ++ ta ++ tb := by simp
  have e3 : 2 ^ (d + 1 + 1) = 2 * 2 ^ (d + 1) := by rw [Nat.pow_succ, Nat.mul_comm]
  refine ⟨(K, 0) :: (ta ++ tb), m + n + 1, rfl, .tbi _ _ _ _ _ h8 h9 hta htb, by omega, ?_, ?_, ?_, hb⟩
  · rw [e1]; omega
  · simp only [List.length_cons, List.length_append]; rw [e3]; omega
  · rw [e1, e2, show tempo - (m + n + 1) = tempo - 1 - m - n by omega]; exact hg
theorem formula_leaf (G : Nat) (rawv : Value) (rs : List (Int × Int)) (at' : Nat) (vars props : Int) (tempo : Nat) (l : List (Int × Int)) (d : Nat) (w : World) (hat : at' <= 60) (hl : l.length <= 60) (hp1 : 1 <= props) (hp2 : props <= 100) (hd : d <= 100) (hleaf : d = 0 \/ 12 <= at')
    (hR : Raws w G rawv rs) (h : GrownAt w G rawv at' vars props (tempo : Int) l) :
    Calls Tryz.prog 13 #[.pointer (some ⟨G, 0, none⟩), .int .i64 d] w (GrewF G rawv at' vars props tempo l d w) := by
  have htake := take_any G rawv rs at' vars props tempo l w (by omega) hR h
  have hlt : G < w.heap.size := h.factsF.2.2.2.2; clear hR h
  have htst : ((d : Int) == 0) = true \/ ((d : Int) == 0) = false /\ decide ((12 : Int) < (at' : Int) + 1) = true := by
    by_cases h0 : d = 0
    · left; simp [h0]
    · right; simp; omega
  clear hleaf
  rcases htst with hd0 | ⟨hd0, h10⟩
  all_goals
    go_enter Tryz.func13, Tryz.ntmps13
    go_wp2_with (first | (go_at_call 26; refine htake.mono ?_; rintro e w1 ⟨k, v, hk, hv, rfl, hg1, hb1⟩; obtain ⟨d1, d3, d4, f4, dlt⟩ := hg1.factsF; have hg2 := hg1.alloc (.cells #[.int .i64 k, .int .i64 v] 89)) | (go_at_call 27; refine (picked_any _ _ _ (by assumption) (by decide) (by decide)).mono ?_; rintro e w2 ⟨r, hr0, hr1, rfl, rfl⟩) | (go_at_call 28; refine (put_any G rawv (at' + 1) vars props tempo _ _ l _ (by omega) hg2).mono ?_; rintro e w3 ⟨rfl, hg3, hb3⟩))
    have hgd : GrownAt (w1.alloc (.cells #[.int .i64 k, .int .i64 v] 89)).drew G rawv (at' + 1) vars props tempo l := hg2; clear hg1 hg2 htake
    go_region_with (first | (go_at_call 27; refine (picked_any _ _ _ (by assumption) (by omega) (by omega)).mono ?_; rintro e w2 ⟨q, hq0, hq1, rfl, rfl⟩) | (go_at_call 28; refine (put_any G rawv (at' + 1) vars props tempo _ _ l _ (by omega) hgd).mono ?_; rintro e w3 ⟨rfl, hg3, hb3⟩))
    all_goals
      go_wp2_with fail
      go_end0
      exact prop_end hq0 hq1 ((hb1.alloc (Nat.le_of_lt dlt) _).drew.trans hb3) hg3
theorem formula_any (G : Nat) (rawv : Value) (rs : List (Int × Int)) (vars props : Int) (hp1 : 1 <= props) (hp2 : props <= 100) (d : Nat) : ∀ (at' : Nat) (tempo : Nat) (l : List (Int × Int)) (w : World), d <= 5 -> tempo <= 100 -> at' <= 40 -> l.length = at' -> Raws w G rawv rs -> GrownAt w G rawv at' vars props (tempo : Int) l ->
    Calls Tryz.prog 13 #[.pointer (some ⟨G, 0, none⟩), .int .i64 d] w (GrewF G rawv at' vars props tempo l d w) := by
  induction d with
  | zero => intro at' tempo l w _ _ ha hl hR h; exact formula_leaf G rawv rs at' vars props tempo l 0 w (by omega) (by omega) hp1 hp2 (by omega) (.inl rfl) hR h
  | succ d ih =>
    intro at' tempo l w hd htm ha hl hR h
    by_cases hleaf : 12 <= at'
    · exact formula_leaf G rawv rs at' vars props tempo l (d + 1) w (by omega) (by omega) hp1 hp2 (by omega) (.inr hleaf) hR h
    have htake := take_any G rawv rs at' vars props tempo l w (by omega) hR h
    have hlt : G < w.heap.size := h.factsF.2.2.2.2; have HR : Hid (Raws w G rawv rs) := hR; have HL : Hid (l.length = at') := hl; have hl98 : l.length <= 40 := by omega
    clear hR h hl; have hat10 : at' < 12 := by omega
    have hdd : ((d + 1 : Nat) : Int) = (d : Int) + 1 := by omega
    rw [hdd]; have hd0 : ((d : Int) + 1 == 0) = false := by simp; omega
    have h10 : decide ((12 : Int) < (at' : Int) + 1) = false := by simp; omega
    clear hdd hleaf
    by_cases ht0 : tempo = 0
    · have htt : (((tempo : Nat) : Int) == 0) = true := by simp; omega
      clear ht0
      go_enter Tryz.func13, Tryz.ntmps13
      go_wp2_with (first | (go_at_call 26; refine htake.mono ?_; rintro e w1 ⟨k, v, hk, hv, rfl, hg1, hb1⟩; obtain ⟨d1, d3, d4, f4, dlt⟩ := hg1.factsF; have hg2 := hg1.alloc (.cells #[.int .i64 k, .int .i64 v] 89)) | (go_at_call 27; refine (picked_any _ _ _ (by assumption) (by decide) (by decide)).mono ?_; rintro e w2 ⟨r, hr0, hr1, rfl, rfl⟩; have hcs : r <= 8 \/ r = 9 \/ r = 10 \/ r = 11 \/ r = 12 \/ 13 <= r := (by omega); rcases hcs with h9 | rfl | rfl | rfl | rfl | h13) | (go_at_call 28; refine (put_any G rawv (at' + 1) vars props tempo _ _ l _ (by omega) hg2).mono ?_; rintro e w3 ⟨rfl, hg3, hb3⟩))
      · have hgd : GrownAt (w1.alloc (.cells #[.int .i64 k, .int .i64 v] 89)).drew G rawv (at' + 1) vars props tempo l := hg2
        clear hg1 hg2 htake ih
        go_region_with (first | (go_at_call 27; refine (picked_any _ _ _ (by assumption) (by omega) (by omega)).mono ?_; rintro e w2 ⟨q, hq0, hq1, rfl, rfl⟩) | (go_at_call 28; refine (put_any G rawv (at' + 1) vars props tempo _ _ l _ (by omega) hgd).mono ?_; rintro e w3 ⟨rfl, hg3, hb3⟩))
        all_goals
          go_wp2_with fail
          go_end0
          exact prop_end hq0 hq1 ((hb1.alloc (Nat.le_of_lt dlt) _).drew.trans hb3) hg3
      · have hb13 := (hb1.alloc (Nat.le_of_lt dlt) (.cells #[.int .i64 k, .int .i64 v] 89)).trans hb3
        have hn1 := ih (at' + 1) tempo _ w3 (by omega) (by omega) (by omega) (by rw [List.length_append, HL.out]; rfl) (HR.out.below hb13) hg3
        clear hg1 hg2 htake ih
        go_wp2_with (go_at_call 13; refine hn1.mono ?_; rintro e w4 ⟨ta, m, rfl, hta, hm, ha14, h2a, hg4, hb4⟩; have H2a := (show Hid _ from h2a); clear h2a)
        go_end0
        exact notF_end hta hm (by omega) H2a.out (hb13.trans hb4) hg4
      · have hb13 := (hb1.alloc (Nat.le_of_lt dlt) (.cells #[.int .i64 k, .int .i64 v] 89)).trans hb3
        have hn1 := ih (at' + 1) tempo _ w3 (by omega) (by omega) (by omega) (by rw [List.length_append, HL.out]; rfl) (HR.out.below hb13) hg3
        clear hg1 hg2 htake
        go_wp2_with (go_at_call 13; refine hn1.mono ?_; rintro e w4 ⟨ta, m, rfl, hta, hm, ha14, h2a, hg4, hb4⟩; have H2a := (show Hid _ from h2a); clear h2a)
        have hb14 := hb13.trans hb4; have hn2 := ih (at' + 1 + ta.length) (tempo - m) _ w4 (by omega) (by omega) (by omega) (by rw [List.length_append, List.length_append, HL.out]; rfl) (HR.out.below hb14) hg4
        clear hn1 ih
        go_wp2_with (go_at_call 13; refine hn2.mono ?_; rintro e w5 ⟨tb, n, rfl, htb, hn, hb14', h2b, hg5, hb5⟩)
        go_end0
        exact binF_end hta htb (by omega) (by omega) hm hn (by omega) H2a.out h2b (hb14.trans hb5) hg5
      · have hb13 := (hb1.alloc (Nat.le_of_lt dlt) (.cells #[.int .i64 k, .int .i64 v] 89)).trans hb3
        have hn1 := ih (at' + 1) tempo _ w3 (by omega) (by omega) (by omega) (by rw [List.length_append, HL.out]; rfl) (HR.out.below hb13) hg3
        clear hg1 hg2 htake
        go_wp2_with (go_at_call 13; refine hn1.mono ?_; rintro e w4 ⟨ta, m, rfl, hta, hm, ha14, h2a, hg4, hb4⟩; have H2a := (show Hid _ from h2a); clear h2a)
        have hb14 := hb13.trans hb4; have hn2 := ih (at' + 1 + ta.length) (tempo - m) _ w4 (by omega) (by omega) (by omega) (by rw [List.length_append, List.length_append, HL.out]; rfl) (HR.out.below hb14) hg4
        clear hn1 ih
        go_wp2_with (go_at_call 13; refine hn2.mono ?_; rintro e w5 ⟨tb, n, rfl, htb, hn, hb14', h2b, hg5, hb5⟩)
        go_end0
        exact binF_end hta htb (by omega) (by omega) hm hn (by omega) H2a.out h2b (hb14.trans hb5) hg5
      · have hb13 := (hb1.alloc (Nat.le_of_lt dlt) (.cells #[.int .i64 k, .int .i64 v] 89)).trans hb3
        have hn1 := ih (at' + 1) tempo _ w3 (by omega) (by omega) (by omega) (by rw [List.length_append, HL.out]; rfl) (HR.out.below hb13) hg3
        clear hg1 hg2 htake ih
        go_wp2_with (go_at_call 13; refine hn1.mono ?_; rintro e w4 ⟨ta, m, rfl, hta, hm, ha14, h2a, hg4, hb4⟩; have H2a := (show Hid _ from h2a); clear h2a)
        go_end0
        exact notF_end hta hm (by omega) H2a.out (hb13.trans hb4) hg4
      · have hb13 := (hb1.alloc (Nat.le_of_lt dlt) (.cells #[.int .i64 k, .int .i64 v] 89)).trans hb3
        have hn1 := ih (at' + 1) tempo _ w3 (by omega) (by omega) (by omega) (by rw [List.length_append, HL.out]; rfl) (HR.out.below hb13) hg3
        clear hg1 hg2 htake ih
        go_wp2_with (go_at_call 13; refine hn1.mono ?_; rintro e w4 ⟨ta, m, rfl, hta, hm, ha14, h2a, hg4, hb4⟩; have H2a := (show Hid _ from h2a); clear h2a)
        go_end0
        exact notF_end hta hm (by omega) H2a.out (hb13.trans hb4) hg4
      · have hb13 := (hb1.alloc (Nat.le_of_lt dlt) (.cells #[.int .i64 k, .int .i64 v] 89)).trans hb3
        have hn1 := ih (at' + 1) tempo _ w3 (by omega) (by omega) (by omega) (by rw [List.length_append, HL.out]; rfl) (HR.out.below hb13) hg3
        clear hg1 hg2 htake
        go_wp2_with (go_at_call 13; refine hn1.mono ?_; rintro e w4 ⟨ta, m, rfl, hta, hm, ha14, h2a, hg4, hb4⟩; have H2a := (show Hid _ from h2a); clear h2a)
        have hb14 := hb13.trans hb4; have hn2 := ih (at' + 1 + ta.length) (tempo - m) _ w4 (by omega) (by omega) (by omega) (by rw [List.length_append, List.length_append, HL.out]; rfl) (HR.out.below hb14) hg4
        clear hn1 ih
        go_wp2_with (go_at_call 13; refine hn2.mono ?_; rintro e w5 ⟨tb, n, rfl, htb, hn, hb14', h2b, hg5, hb5⟩)
        go_end0
        exact binF_end hta htb (by omega) (by omega) hm hn (by omega) H2a.out h2b (hb14.trans hb5) hg5
      · have hb13 := (hb1.alloc (Nat.le_of_lt dlt) (.cells #[.int .i64 k, .int .i64 v] 89)).trans hb3
        have hn1 := ih (at' + 1) tempo _ w3 (by omega) (by omega) (by omega) (by rw [List.length_append, HL.out]; rfl) (HR.out.below hb13) hg3
        clear hg1 hg2 htake ih
        go_wp2_with (go_at_call 13; refine hn1.mono ?_; rintro e w4 ⟨ta, m, rfl, hta, hm, ha14, h2a, hg4, hb4⟩; have H2a := (show Hid _ from h2a); clear h2a)
        go_end0
        exact notF_end hta hm (by omega) H2a.out (hb13.trans hb4) hg4
      · have hb13 := (hb1.alloc (Nat.le_of_lt dlt) (.cells #[.int .i64 k, .int .i64 v] 89)).trans hb3
        have hn1 := ih (at' + 1) tempo _ w3 (by omega) (by omega) (by omega) (by rw [List.length_append, HL.out]; rfl) (HR.out.below hb13) hg3
        clear hg1 hg2 htake
        go_wp2_with (go_at_call 13; refine hn1.mono ?_; rintro e w4 ⟨ta, m, rfl, hta, hm, ha14, h2a, hg4, hb4⟩; have H2a := (show Hid _ from h2a); clear h2a)
        have hb14 := hb13.trans hb4; have hn2 := ih (at' + 1 + ta.length) (tempo - m) _ w4 (by omega) (by omega) (by omega) (by rw [List.length_append, List.length_append, HL.out]; rfl) (HR.out.below hb14) hg4
        clear hn1 ih
        go_wp2_with (go_at_call 13; refine hn2.mono ?_; rintro e w5 ⟨tb, n, rfl, htb, hn, hb14', h2b, hg5, hb5⟩)
        go_end0
        exact binF_end hta htb (by omega) (by omega) hm hn (by omega) H2a.out h2b (hb14.trans hb5) hg5
    · have htt : (((tempo : Nat) : Int) == 0) = false := by simp; omega
      have HT0 : Hid (0 < tempo) := by show 0 < tempo; omega
      have HTI : Hid ((tempo : Int) - 1 = ((tempo - 1 : Nat) : Int)) := by show _ = _; omega
      go_enter Tryz.func13, Tryz.ntmps13
      go_wp2_with (first | (go_at_call 26; refine htake.mono ?_; rintro e w1 ⟨k, v, hk, hv, rfl, hg1, hb1⟩; obtain ⟨d1, d3, d4, f4, dlt⟩ := hg1.factsF; have hg2 := hg1.alloc (.cells #[.int .i64 k, .int .i64 v] 89)) | (go_at_call 27; refine (picked_any _ _ _ (by assumption) (by decide) (by decide)).mono ?_; rintro e w2 ⟨r, hr0, hr1, rfl, rfl⟩; have hcs : r <= 8 \/ r = 9 \/ r = 10 \/ r = 11 \/ r = 12 \/ 13 <= r := (by omega); rcases hcs with h9 | rfl | rfl | rfl | rfl | h13) | (go_at_call 28; refine (put_any G rawv (at' + 1) vars props tempo _ _ l _ (by omega) hg2).mono ?_; rintro e w3 ⟨rfl, hg3, hb3⟩))
      · have hgd : GrownAt (w1.alloc (.cells #[.int .i64 k, .int .i64 v] 89)).drew G rawv (at' + 1) vars props tempo l := hg2
        clear hg1 hg2 htake ih
        go_region_with (first | (go_at_call 27; refine (picked_any _ _ _ (by assumption) (by omega) (by omega)).mono ?_; rintro e w2 ⟨q, hq0, hq1, rfl, rfl⟩) | (go_at_call 28; refine (put_any G rawv (at' + 1) vars props tempo _ _ l _ (by omega) hgd).mono ?_; rintro e w3 ⟨rfl, hg3, hb3⟩))
        all_goals
          go_wp2_with fail
          go_end0
          exact prop_end hq0 hq1 ((hb1.alloc (Nat.le_of_lt dlt) _).drew.trans hb3) hg3
      · have hb13 := (hb1.alloc (Nat.le_of_lt dlt) (.cells #[.int .i64 k, .int .i64 v] 89)).trans hb3
        have hn1 := ih (at' + 1) tempo _ w3 (by omega) (by omega) (by omega) (by rw [List.length_append, HL.out]; rfl) (HR.out.below hb13) hg3
        clear hg1 hg2 htake ih
        go_wp2_with (go_at_call 13; refine hn1.mono ?_; rintro e w4 ⟨ta, m, rfl, hta, hm, ha14, h2a, hg4, hb4⟩; have H2a := (show Hid _ from h2a); clear h2a)
        go_end0
        exact notF_end hta hm (by omega) H2a.out (hb13.trans hb4) hg4
      · have hb13 := (hb1.alloc (Nat.le_of_lt dlt) (.cells #[.int .i64 k, .int .i64 v] 89)).trans hb3
        have hn1 := ih (at' + 1) tempo _ w3 (by omega) (by omega) (by omega) (by rw [List.length_append, HL.out]; rfl) (HR.out.below hb13) hg3
        clear hg1 hg2 htake
        go_wp2_with (go_at_call 13; refine hn1.mono ?_; rintro e w4 ⟨ta, m, rfl, hta, hm, ha14, h2a, hg4, hb4⟩; have H2a := (show Hid _ from h2a); clear h2a)
        have hb14 := hb13.trans hb4; have hn2 := ih (at' + 1 + ta.length) (tempo - m) _ w4 (by omega) (by omega) (by omega) (by rw [List.length_append, List.length_append, HL.out]; rfl) (HR.out.below hb14) hg4
        clear hn1 ih
        go_wp2_with (go_at_call 13; refine hn2.mono ?_; rintro e w5 ⟨tb, n, rfl, htb, hn, hb14', h2b, hg5, hb5⟩)
        go_end0
        exact binF_end hta htb (by omega) (by omega) hm hn (by omega) H2a.out h2b (hb14.trans hb5) hg5
      · have hgt := ((hg1.setTempo ((tempo : Int) - 1)).alloc (.cells #[.int .i64 k, .int .i64 v] 89)).alloc (.cells #[.int .i64 14, .int .i64 17, .int .i64 18, .int .i64 17] 3)
        have hbt := ((hb1.setCell (p := ⟨G, 4, none⟩) (Nat.le_refl _) (.int .i64 ((tempo : Int) - 1))).alloc (by simp; omega) (.cells #[.int .i64 k, .int .i64 v] 89)).alloc (by simp; omega) (.cells #[.int .i64 14, .int .i64 17, .int .i64 18, .int .i64 17] 3)
        have hpt := fun kk => put_any G rawv (at' + 1) vars props ((tempo : Int) - 1) kk 0 l _ (by omega) hgt
        clear hg1 hg2 htake hgt
        go_wp2_with (go_at_call 28; refine (hpt _).mono ?_; rintro e w3 ⟨rfl, hg3, hb3⟩)
        have hb13 := hbt.trans hb3; rw [HTI.out] at hg3; clear hpt; have hn1 := ih (at' + 1) (tempo - 1) _ w3 (by omega) (by omega) (by omega) (by rw [List.length_append, HL.out]; rfl) (HR.out.below hb13) hg3
        clear ih
        go_wp2_with (go_at_call 13; refine hn1.mono ?_; rintro e w4 ⟨ta, m, rfl, hta, hm, ha14, h2a, hg4, hb4⟩; have H2a := (show Hid _ from h2a); clear h2a)
        go_end0
        exact tunF_end hta (by decide) HT0.out hm (by omega) H2a.out (hb13.trans hb4) hg4
      · have hgt := ((hg1.setTempo ((tempo : Int) - 1)).alloc (.cells #[.int .i64 k, .int .i64 v] 89)).alloc (.cells #[.int .i64 14, .int .i64 17, .int .i64 18, .int .i64 17] 3)
        have hbt := ((hb1.setCell (p := ⟨G, 4, none⟩) (Nat.le_refl _) (.int .i64 ((tempo : Int) - 1))).alloc (by simp; omega) (.cells #[.int .i64 k, .int .i64 v] 89)).alloc (by simp; omega) (.cells #[.int .i64 14, .int .i64 17, .int .i64 18, .int .i64 17] 3)
        have hpt := fun kk => put_any G rawv (at' + 1) vars props ((tempo : Int) - 1) kk 0 l _ (by omega) hgt
        clear hg1 hg2 htake hgt
        go_wp2_with (go_at_call 28; refine (hpt _).mono ?_; rintro e w3 ⟨rfl, hg3, hb3⟩)
        have hb13 := hbt.trans hb3; rw [HTI.out] at hg3; clear hpt; have hn1 := ih (at' + 1) (tempo - 1) _ w3 (by omega) (by omega) (by omega) (by rw [List.length_append, HL.out]; rfl) (HR.out.below hb13) hg3
        clear ih
        go_wp2_with (go_at_call 13; refine hn1.mono ?_; rintro e w4 ⟨ta, m, rfl, hta, hm, ha14, h2a, hg4, hb4⟩; have H2a := (show Hid _ from h2a); clear h2a)
        go_end0
        exact tunF_end hta (by decide) HT0.out hm (by omega) H2a.out (hb13.trans hb4) hg4
      · have hgt := ((hg1.setTempo ((tempo : Int) - 1)).alloc (.cells #[.int .i64 k, .int .i64 v] 89)).alloc (.cells #[.int .i64 14, .int .i64 17, .int .i64 18, .int .i64 17] 3)
        have hbt := ((hb1.setCell (p := ⟨G, 4, none⟩) (Nat.le_refl _) (.int .i64 ((tempo : Int) - 1))).alloc (by simp; omega) (.cells #[.int .i64 k, .int .i64 v] 89)).alloc (by simp; omega) (.cells #[.int .i64 14, .int .i64 17, .int .i64 18, .int .i64 17] 3)
        have hpt := fun kk => put_any G rawv (at' + 1) vars props ((tempo : Int) - 1) kk 0 l _ (by omega) hgt
        clear hg1 hg2 htake hgt
        go_wp2_with (go_at_call 28; refine (hpt _).mono ?_; rintro e w3 ⟨rfl, hg3, hb3⟩)
        have hb13 := hbt.trans hb3; rw [HTI.out] at hg3; clear hpt; have hn1 := ih (at' + 1) (tempo - 1) _ w3 (by omega) (by omega) (by omega) (by rw [List.length_append, HL.out]; rfl) (HR.out.below hb13) hg3
        clear ih
        go_wp2_with (go_at_call 13; refine hn1.mono ?_; rintro e w4 ⟨ta, m, rfl, hta, hm, ha14, h2a, hg4, hb4⟩; have H2a := (show Hid _ from h2a); clear h2a)
        go_end0
        exact tunF_end hta (by decide) HT0.out hm (by omega) H2a.out (hb13.trans hb4) hg4
      · have hgt := ((hg1.setTempo ((tempo : Int) - 1)).alloc (.cells #[.int .i64 k, .int .i64 v] 89)).alloc (.cells #[.int .i64 14, .int .i64 17, .int .i64 18, .int .i64 17] 3)
        have hbt := ((hb1.setCell (p := ⟨G, 4, none⟩) (Nat.le_refl _) (.int .i64 ((tempo : Int) - 1))).alloc (by simp; omega) (.cells #[.int .i64 k, .int .i64 v] 89)).alloc (by simp; omega) (.cells #[.int .i64 14, .int .i64 17, .int .i64 18, .int .i64 17] 3)
        have hpt := fun kk => put_any G rawv (at' + 1) vars props ((tempo : Int) - 1) kk 0 l _ (by omega) hgt
        clear hg1 hg2 htake hgt
        go_wp2_with (go_at_call 28; refine (hpt _).mono ?_; rintro e w3 ⟨rfl, hg3, hb3⟩)
        have hb13 := hbt.trans hb3; rw [HTI.out] at hg3; clear hpt; have hn1 := ih (at' + 1) (tempo - 1) _ w3 (by omega) (by omega) (by omega) (by rw [List.length_append, HL.out]; rfl) (HR.out.below hb13) hg3
        clear ih
        go_wp2_with (go_at_call 13; refine hn1.mono ?_; rintro e w4 ⟨ta, m, rfl, hta, hm, ha14, h2a, hg4, hb4⟩; have H2a := (show Hid _ from h2a); clear h2a)
        go_end0
        exact tunF_end hta (by decide) HT0.out hm (by omega) H2a.out (hb13.trans hb4) hg4
      · have hgt := (hg1.setTempo ((tempo : Int) - 1)).alloc (.cells #[.int .i64 k, .int .i64 v] 89)
        have hbt := (hb1.setCell (p := ⟨G, 4, none⟩) (Nat.le_refl _) (.int .i64 ((tempo : Int) - 1))).alloc (by simp; omega) (.cells #[.int .i64 k, .int .i64 v] 89)
        have hpt := fun kk => put_any G rawv (at' + 1) vars props ((tempo : Int) - 1) kk 0 l _ (by omega) hgt
        clear hg1 hg2 htake hgt
        go_wp2_with (go_at_call 28; refine (hpt _).mono ?_; rintro e w3 ⟨rfl, hg3, hb3⟩)
        have hb13 := hbt.trans hb3; rw [HTI.out] at hg3; clear hpt; have hn1 := ih (at' + 1) (tempo - 1) _ w3 (by omega) (by omega) (by omega) (by rw [List.length_append, HL.out]; rfl) (HR.out.below hb13) hg3
        go_wp2_with (go_at_call 13; refine hn1.mono ?_; rintro e w4 ⟨ta, m, rfl, hta, hm, ha14, h2a, hg4, hb4⟩; have H2a := (show Hid _ from h2a); clear h2a)
        have hb14 := hb13.trans hb4; have hn2 := ih (at' + 1 + ta.length) ((tempo - 1) - m) _ w4 (by omega) (by omega) (by omega) (by rw [List.length_append, List.length_append, HL.out]; rfl) (HR.out.below hb14) hg4
        clear hn1 ih
        go_wp2_with (go_at_call 13; refine hn2.mono ?_; rintro e w5 ⟨tb, n, rfl, htb, hn, hb14', h2b, hg5, hb5⟩)
        go_end0
        exact tbiF_end hta htb (by omega) (by omega) HT0.out hm hn (by omega) H2a.out h2b (hb14.trans hb5) hg5
theorem grownF_new (w : World) (rawv : Value) (vars props tempo : Int) :
    GrownAt (w.alloc (.cells #[rawv, .int .i64 0, .int .i64 vars, .int .i64 props, .int .i64 tempo, .slice none 0 0] 58)) w.heap.size rawv 0 vars props tempo [] :=
  ⟨_, blk_alloc_new _ _, World.ownsRow_nil _ _ _ _⟩
theorem formulaFn_any (rawv : Value) (rs : List (Int × Int)) (props : Int) (tempo : Nat) (w : World) (hp1 : 1 <= props) (hp2 : props <= 100) (ht : tempo <= 100) (hR : Raws w w.heap.size rawv rs) :
    Calls Tryz.prog 7 #[rawv, .int .i64 props, .int .i64 (tempo : Int)] w fun e w' => ∃ a c t m, e = .returned (.slice a t.length c) /\ ForT props m t /\ m <= tempo /\ t.length <= 17 /\ OpsV w' (.slice a t.length c) t /\ Below w.heap.size w w' := by
  have hb0 := (Below.refl w.heap.size w).alloc (Nat.le_refl _) (.cells #[rawv, .int .i64 0, .int .i64 0, .int .i64 props, .int .i64 (tempo : Int), .slice none 0 0] 58); have htr := formula_any w.heap.size rawv rs 0 props hp1 hp2 4 0 tempo [] _ (by omega) ht (by omega) rfl (hR.below hb0) (grownF_new w rawv 0 props tempo)
  obtain ⟨ra, rn, rc, hra⟩ : ∃ a n c, rawv = .slice a n c := by obtain ⟨⟨a, c, h, _⟩, _, _⟩ := hR; exact ⟨_, _, _, h⟩
  subst hra; clear hR
  go_enter Tryz.func7, Tryz.ntmps7
  go_wp2_with (go_at_call 13; refine htr.mono ?_; rintro e w1 ⟨t, m, rfl, ht, hm, hlen, _, hg1, hb1⟩; obtain ⟨outv, hh, ho⟩ := hg1; obtain ⟨_, _, _, c5, _, hlt⟩ := gcells hh)
  go_ret
  rw [List.nil_append] at ho; obtain ⟨a, c, rfl⟩ := owns_slice ho; exact ⟨a, c, t, m, rfl, ht, hm, by omega, opsV_of_owns ho, hb0.trans hb1⟩
end Go.Proofs.YtobopjjmhginlabGreatDoor
namespace Go.Proofs.YtobopjjmhginlabGreatDoor
open Terms
set_option maxHeartbeats 6400000
set_option maxRecDepth 20000
structure FOk (m : Nat) (t : List (Int × Int)) (T : Tm) : Prop where
  ops : T.ops = t
  wf : T.Wf
  good : ∀ o, o ∈ t -> lopErr 3 o = 0
  many : (t.filter fun o => lookB o.1).length = m
theorem FOk.not {m : Nat} {t : List (Int × Int)} {T : Tm} (h : FOk m t T) : FOk m ((10, 0) :: t) (.un 10 0 T) := by
  obtain ⟨h1, h2, h3, h4⟩ := h; refine ⟨by simp [Tm.ops, h1], ⟨by decide, by decide, h2⟩, fun o ho => ?_, ?_⟩
  · rcases List.mem_cons.1 ho with rfl | ho
    · rfl
    · exact h3 o ho
  · rw [List.filter_cons, if_neg (by decide)]; exact h4
theorem FOk.tun {m : Nat} {k : Int} {t : List (Int × Int)} {T : Tm} (hk : k = 14 \/ k = 17 \/ k = 18) (h : FOk m t T) : FOk (m + 1) ((k, 0) :: t) (.un k 0 T) := by
  obtain ⟨h1, h2, h3, h4⟩ := h; refine ⟨by simp [Tm.ops, h1], ?_, fun o ho => ?_, ?_⟩
  · rcases hk with rfl | rfl | rfl <;> exact ⟨by decide, by decide, h2⟩
  · rcases List.mem_cons.1 ho with rfl | ho
    · rcases hk with rfl | rfl | rfl <;> rfl
    · exact h3 o ho
  · rw [List.filter_cons, if_pos (by rcases hk with rfl | rfl | rfl <;> decide), List.length_cons, h4]
theorem FOk.bin {m n : Nat} {k : Int} {t s : List (Int × Int)} {T S : Tm} (h8 : 8 <= k) (h9 : k <= 9) (h : FOk m t T) (g : FOk n s S) : FOk (m + n) ((k, 0) :: (t ++ s)) (.bi k 0 T S) := by
  obtain ⟨h1, h2, h3, h4⟩ := h; obtain ⟨g1, g2, g3, g4⟩ := g; have hk : k = 8 \/ k = 9 := by omega
  refine ⟨by simp [Tm.ops, h1, g1], ?_, fun o ho => ?_, ?_⟩
  · rcases hk with rfl | rfl <;> exact ⟨by decide, by decide, h2, g2⟩
  · rcases List.mem_cons.1 ho with rfl | ho
    · rcases hk with rfl | rfl <;> rfl
    · rcases List.mem_append.1 ho with ho | ho
      · exact h3 o ho
      · exact g3 o ho
  · rw [List.filter_cons, if_neg (by rcases hk with rfl | rfl <;> decide), List.filter_append, List.length_append, h4, g4]
theorem FOk.tbi {m n : Nat} {k : Int} {t s : List (Int × Int)} {T S : Tm} (h8 : 15 <= k) (h9 : k <= 16) (h : FOk m t T) (g : FOk n s S) : FOk (m + n + 1) ((k, 0) :: (t ++ s)) (.bi k 0 T S) := by
  obtain ⟨h1, h2, h3, h4⟩ := h; obtain ⟨g1, g2, g3, g4⟩ := g; have hk : k = 15 \/ k = 16 := by omega
  refine ⟨by simp [Tm.ops, h1, g1], ?_, fun o ho => ?_, ?_⟩
  · rcases hk with rfl | rfl <;> exact ⟨by decide, by decide, h2, g2⟩
  · rcases List.mem_cons.1 ho with rfl | ho
    · rcases hk with rfl | rfl <;> rfl
    · rcases List.mem_append.1 ho with ho | ho
      · exact h3 o ho
      · exact g3 o ho
  · rw [List.filter_cons, if_pos (by rcases hk with rfl | rfl <;> decide), List.length_cons, List.filter_append, List.length_append, h4, g4]
theorem ForT.ok {m : Nat} {t : List (Int × Int)} (h : ForT 3 m t) : ∃ T, FOk m t T := by
  induction h with
  | prop v h0 h1 =>
    refine ⟨.leaf 13 v, rfl, ⟨by decide, by decide⟩, fun o ho => ?_, by rw [List.filter_cons, if_neg (by show ¬ lookB 13 = true; decide)]; rfl⟩
    obtain rfl : o = (13, v) := by simpa using ho
    unfold lopErr; rw [if_neg (by show ¬ (13 : Int) < 8; decide), if_neg (by simp; omega)]
  | not m a _ ih => obtain ⟨T, hT⟩ := ih; exact ⟨_, hT.not⟩
  | bin m n k a b h8 h9 _ _ iha ihb => obtain ⟨A, hA⟩ := iha; obtain ⟨B, hB⟩ := ihb; exact ⟨_, hA.bin h8 h9 hB⟩
  | tun m k a hk _ ih => obtain ⟨T, hT⟩ := ih; exact ⟨_, hT.tun hk⟩
  | tbi m n k a b h8 h9 _ _ iha ihb => obtain ⟨A, hA⟩ := iha; obtain ⟨B, hB⟩ := ihb; exact ⟨_, hA.tbi h8 h9 hB⟩
theorem ForT.ne {props : Int} {m : Nat} {t : List (Int × Int)} (h : ForT props m t) : t ≠ [] := by cases h <;> simp
theorem ahead_count (l : List (Int × Int)) : ∀ n, n <= l.length -> (aheadTo l n).length = ((l.take n).filter fun o => lookB o.1).length := by
  intro n
  induction n with
  | zero => intro _; rfl
  | succ n ih =>
    intro hn; rw [List.take_succ_eq_append_getElem (by omega), List.filter_append, List.length_append, <- ih (by omega)]
    simp only [aheadTo, List.length_append]
    congr 1
    rw [List.getD_eq_getElem?_getD, List.getElem?_eq_getElem (by omega), Option.getD_some, List.filter_cons]
    cases lookB (l[n]).1 <;> simp
theorem FOk.ahead {m : Nat} {t : List (Int × Int)} {T : Tm} (h : FOk m t T) : (aheadL t).length = m := by
  unfold aheadL; rw [ahead_count t t.length (Nat.le_refl _), List.take_length, h.many]
theorem FOk.size {m : Nat} {t : List (Int × Int)} {T : Tm} (h : FOk m t T) : T.size = t.length := by rw [<- Tm.ops_length, h.ops]
theorem FOk.ends {m : Nat} {t : List (Int × Int)} {T : Tm} (h : FOk m t T) (hl : t.length <= 60) : endsCode (t.map Prod.fst) = 0 := by
  have h1 := Tm.one h.wf; rw [h.ops] at h1; unfold endsCode; rw [List.length_map, if_neg (by have := h.size; have := T.size_pos; omega), h1, h.size]
  simp
theorem FOk.code {m : Nat} {t : List (Int × Int)} {T : Tm} (h : FOk m t T) (hl : t.length <= 60) (hm : m <= 6) : lcode 3 t = 0 := by
  rw [lcode_many (by omega) (h.ends hl) (lfirst_none fun j hj => h.good _ (by rw [List.getD_eq_getElem?_getD, List.getElem?_eq_getElem hj, Option.getD_some]; exact List.getElem_mem hj)), h.ahead, if_neg (by omega)]
end Go.Proofs.YtobopjjmhginlabGreatDoor
namespace Go.Proofs.YtobopjjmhginlabGreatDoor
open Go.ChangeShapes Go.WideShapes Go.ChangeAt Go.RowKit Go.Deep
open Terms
set_option maxHeartbeats 6400000
set_option maxRecDepth 20000
end Go.Proofs.YtobopjjmhginlabGreatDoor
namespace Go.Proofs.YtobopjjmhginlabGreatDoor
open Go.ChangeShapes Go.WideShapes Go.ChangeAt Go.RowKit Go.Deep Go.Maps
open Terms Tm
set_option maxHeartbeats 6400000
set_option maxRecDepth 20000
def firstC (m : Mo) : Int := codeTo m.vars (initsL m.vars) m.vars.length
theorem firstC_in {m : Mo} (h : mcode m = 0) : 0 <= firstC m /\ firstC m < prodTo m.vars m.vars.length := code_bounds (mcode_vars h) (Nat.le_refl _) (fun i hi => inits_in (mcode_vars h) i hi)
noncomputable def reachL (m : Mo) : List Int := if mcode m = 0 then reachN (nextL m) (firstC m) (prodTo m.vars m.vars.length).toNat else []
theorem nextL_in {m : Mo} (hm : mcode m = 0) {x : Int} (hx : 0 <= x /\ x < prodTo m.vars m.vars.length) {y : Int} (hy : y ∈ nextL m x) : 0 <= y /\ y < prodTo m.vars m.vars.length := by
  have h1 := ((upL_spec _).2 y).1 hy; unfold rawL at h1
  split at h1
  · simp at h1; subst h1; exact hx
  · obtain ⟨j, _, e⟩ := (rawTo_mem (Nat.le_refl _) y).1 h1
    exact ruleDo_state (mcode_vars hm) e
def MetIs (w : World) (b : Nat) (l : List Int) : Prop := ∃ D : DataW Unit, w.ownsMap Tryz.prog 3 (plainElem Tryz.prog 3) b l.length D /\ ∀ x : Int, 0 <= x /\ x <= 5000 -> Maps.has D (.int .i64 x) = decide (x ∈ l)
theorem keyS (x : Int) (h : 0 <= x /\ x <= 5000) : keyOf Tryz.prog 3 (.int .i64 x) = some (.int .i64 x) := keyOf_int_mk Tryz.underlying3 (WalkArith.wf_i64 (by omega))
theorem MetIs.put {w w' : World} {b : Nat} {l : List Int} {D : DataW Unit} {x : Int} {d : DataW Unit} (hD : w.ownsMap Tryz.prog 3 (plainElem Tryz.prog 3) b l.length D) (h : ∀ y : Int, 0 <= y /\ y <= 5000 -> Maps.has D (.int .i64 y) = decide (y ∈ l)) (h' : w'.ownsMap Tryz.prog 3 (plainElem Tryz.prog 3) b (l.length + 1) (D.put (.int .i64 x) d)) : MetIs w' b (l ++ [x]) := by
  refine ⟨_, by simpa using h', fun y hy => ?_⟩
  by_cases hyx : y = x
  · subst hyx
    rw [has_put_same hD.isMap (by simp [WideAt.IsKeyLit])]
    simp
  · rw [has_put_other (by simpa using hyx), h y hy]
    simp [hyx]
theorem MetIs.below {w w' : World} {b : Nat} {l : List Int} (h : MetIs w b l) (hb : Below w.heap.size w w') : MetIs w' b l := by
  obtain ⟨D, h1, h2⟩ := h; exact ⟨D, h1.kept (row := none) ⟨hb.os, hb.tape, hb.output, hb.size, fun i hi _ => hb.block i hi⟩ (by simp), h2⟩
theorem undrewB {a b : World} (h : Below a.drew.heap.size a.drew b) : Below a.heap.size a b := ⟨h.os, h.tape, h.output, h.size, h.block⟩
structure Met (nx : Int -> List Int) (first : Int) (N b : Nat) (w1 wr : World) (v : Value) (R : List Int) (p : Nat) : Prop where
  nodup : R.Nodup
  fst : first ∈ R
  all : ∀ x ∈ R, (0 <= x /\ x < N) /\ RSt nx first x
  closed : ∀ i, i < p -> ∀ y ∈ nx (R.getD i 0), y ∈ R
  own : wr.ownsRow (b + 1) 3 1 v R.length (ivals R)
  ne : v ≠ .slice none 0 0
  met : MetIs wr b R
  bel : Below w1.heap.size w1 wr
theorem Met.below {nx : Int -> List Int} {first : Int} {N b : Nat} {w1 wr w' : World} {v : Value} {R : List Int} {p : Nat} (h : Met nx first N b w1 wr v R p) (hb : Below wr.heap.size wr w') : Met nx first N b w1 w' v R p :=
  ⟨h.nodup, h.fst, h.all, h.closed, owns_later h.own hb (Nat.le_refl _), h.ne, h.met.below hb, h.bel.trans (hb.mono h.bel.size)⟩
theorem Met.length {nx : Int -> List Int} {first : Int} {N b : Nat} {w1 wr : World} {v : Value} {R : List Int} {p : Nat} (h : Met nx first N b w1 wr v R p) : R.length <= N := nodup_length h.nodup fun x hx => (h.all x hx).1
theorem Met.form {nx : Int -> List Int} {first : Int} {N b : Nat} {w1 wr : World} {v : Value} {R : List Int} {p : Nat} (h : Met nx first N b w1 wr v R p) : ∃ g cap, v = .slice (some ⟨g, 0, none⟩) R.length cap /\ b + 1 <= g /\ g < wr.heap.size := OwnI.form ⟨h.own, h.ne⟩
def MetTo (nx : Int -> List Int) (first : Int) (N b : Nat) (w1 wr : World) (v : Value) (p : Nat) : Prop := ∃ R, p <= R.length /\ Met nx first N b w1 wr v R p
def MetAt (nx : Int -> List Int) (first : Int) (N b : Nat) (w1 wr : World) (v : Value) (p : Nat) (x : Int) (nl : List Int) (q : Nat) : Prop := ∃ R, p < R.length /\ R.getD p 0 = x /\ (∀ j, j < q -> nl.getD j 0 ∈ R) /\ Met nx first N b w1 wr v R p
end Go.Proofs.YtobopjjmhginlabGreatDoor
namespace Go.Proofs.YtobopjjmhginlabGreatDoor
open Go.ChangeShapes Go.WideShapes Go.ChangeAt Go.RowKit Go.Deep
open Terms
set_option maxHeartbeats 6400000
set_option maxRecDepth 20000
theorem take_flat {ts : List (List (Int × Int))} {i : Nat} (hi : i < ts.length) : (ts.take (i + 1)).flatten = (ts.take i).flatten ++ ts.getD i [] := by
  rw [List.take_succ_eq_append_getElem hi, List.flatten_append]; simp [List.getD_eq_getElem?_getD, hi]
theorem joined_any (kind : Int) (v : Value) (ts : List (List (Int × Int))) (w : World) (hn : ts.length <= 10) (hl : ∀ i, i <= ts.length -> (ts.take i).flatten.length <= 200) (hne : ∀ i, i < ts.length -> ts.getD i [] ≠ []) (hV : TermsV w v ts) :
    Calls Tryz.prog 16 #[.int .i64 kind, v] w fun e w' => ∃ v', e = .returned v' /\ Below w.heap.size w w' /\ w'.ownsRow w.heap.size 33 2 v' ((kind, 0) :: ts.flatten).length (flat ((kind, 0) :: ts.flatten)) := by
  obtain ⟨i0, hi, hz0, hz1, hz2⟩ := info_parts infoOp; obtain ⟨va, vc, rfl, hat⟩ := hV; obtain ⟨n, hnn⟩ : ∃ n, n = ts.length := ⟨_, rfl⟩
  have HN : Hid (n = ts.length) := hnn; have HL := (show Hid _ from hl)
  have HNE := (show Hid _ from hne)
  have HA := (show Hid _ from hat)
  rw [<- hnn] at hn ⊢; clear hl hne hat hnn
  go_enter Tryz.func16, Tryz.ntmps16
  go_wp2_with fail
  go_loopw [5, 6] (fun out c wr => ∃ i : Nat, i <= n /\ c = .int .i64 i /\ wr.ownsRow w.heap.size 33 2 out ((ts.take i).flatten.length + 1) (flat ((kind, 0) :: (ts.take i).flatten)) /\ Below w.heap.size w wr) (fun _ c _ => n - (intOf c).toNat)
  case atStart => exact ⟨0, Nat.zero_le _, rfl, World.ownsRow_lit w #[.int .i64 kind, .int .i64 0] 1 (Nat.le_refl _) (by unfold maxLen; omega) rfl, (Below.refl _ _).alloc (Nat.le_refl _) _⟩
  case round =>
    obtain ⟨i, hile, rfl, hown, hbel⟩ := hrel
    by_cases hlt : i < n
    · have hlt' : i < ts.length := by rw [<- HN.out]; exact hlt
      obtain ⟨b, off, rfl, hbl, hcs⟩ := HA.out (by intro h; rw [h] at hlt'; simp at hlt')
      obtain ⟨u, hu, hou⟩ := hcs i hlt'; have hcu := (hbel.cell (p := ⟨b, off + i, none⟩) hbl).trans hu; obtain ⟨ua, uc, hus, _, huat⟩ := hou.below hbel; obtain ⟨ub, uoff, rfl, hubl, huat⟩ := huat (HNE.out i hlt'); have HS : Hid ((ts.take (i + 1)).flatten = (ts.take i).flatten ++ ts.getD i []) := take_flat hlt'; have hl1 := HL.out (i + 1) (by omega)
      rw [HS.out, List.length_append] at hl1; have HC : Hid (∀ j x, (flat (ts.getD i []))[j]? = some x -> wr.cell? ((⟨ub, uoff, none⟩ : Addr).add j) = some x) := huat.cells
      obtain ⟨m, hm⟩ : ∃ m, m = (ts.getD i []).length := ⟨_, rfl⟩
      have HM : Hid (m = (ts.getD i []).length) := hm; rw [<- hm] at hus hl1; subst hus; obtain ⟨q, hq⟩ : ∃ q, q = (ts.take i).flatten.length := ⟨_, rfl⟩
      have HQ : Hid (q = (ts.take i).flatten.length) := hq; rw [<- hq] at hown hl1; clear hou hu hcs huat hm hq hlt'; generalize ts.getD i [] = tt at HC HM HS
      go_wp2_with (at_builtin; refine wpList_append_own _ rfl (.tmp 16) (.tmp 20) 27 rfl w.heap.size 33 i0 (.agg #[.int .i64 0, .int .i64 0]) 2 16 Tryz.underlying27 hi hz0 hz1 hz2 rfl (by decide) _ _ _ rfl hown ⟨ub, uoff, none⟩ m uc (flat tt) rfl ?c0 HC.out (flat_one _) ?c3 ?c4 ?c5 ?_)
      case c0 => rw [flat_length, HM.out]
      case c3 => unfold maxLen; omega
      case c4 => omega
      case c5 => exact hbel.size
      intro v' w4 hown' hgrow _; have hb4 : Below w.heap.size w w4 := hbel.grown hgrow hbel.size (fun k hk => (hown.lt k hk).1)
      have ho4 : w4.ownsRow w.heap.size 33 2 v' ((ts.take (i + 1)).flatten.length + 1) (flat ((kind, 0) :: (ts.take (i + 1)).flatten)) := by
        have e1 : (ts.take (i + 1)).flatten.length + 1 = q + 1 + m := by rw [HS.out, List.length_append, <- HQ.out, <- HM.out]; omega
        have e2 : flat ((kind, 0) :: (ts.take (i + 1)).flatten) = flat ((kind, 0) :: (ts.take i).flatten) ++ flat tt := by rw [HS.out, <- flat_append]; rfl
        rw [e1, e2]; exact hown'
      clear hown' hgrow hown
      go_wp2
      go_roundw
      case rel => exact ⟨i + 1, by omega, by go_num, ho4, hb4⟩
      case measure => simp [intOf]; omega
    · have hin : i = n := by omega
      subst hin; rw [show ts.take i = ts by rw [HN.out, List.take_length]] at hown
      clear hlt hile
      go_wp2_with fail
      go_ret
      exact ⟨_, rfl, hbel, hown⟩
theorem joined2 (kind : Int) (g : Nat) (lv mv : Value) (l m : List (Int × Int)) (w : World) (hc : w.cell? ⟨g, 0, none⟩ = some lv) (hd : w.cell? ⟨g, 1, none⟩ = some mv) (hl : l.length <= 60) (hm : m.length <= 60) (hne : l ≠ []) (hne2 : m ≠ []) (hV : OpsV w lv l) (hM : OpsV w mv m) :
    Calls Tryz.prog 16 #[.int .i64 kind, .slice (some ⟨g, 0, none⟩) 2 2] w fun e w' => ∃ a c, e = .returned (.slice a ((kind, 0) :: (l ++ m)).length c) /\ Below w.heap.size w w' /\ OpsV w' (.slice a ((kind, 0) :: (l ++ m)).length c) ((kind, 0) :: (l ++ m)) := by
  have hT : TermsV w (.slice (some ⟨g, 0, none⟩) 2 2) [l, m] := ⟨_, 2, rfl, fun _ => ⟨g, 0, rfl, World.block_lt_of_cell? w ⟨g, 0, none⟩ hc, fun i hi => by
    have : i = 0 \/ i = 1 := by simp at hi; omega
    rcases this with rfl | rfl
    · exact ⟨lv, hc, hV⟩
    · exact ⟨mv, hd, hM⟩⟩⟩
  refine (joined_any kind _ [l, m] w (by simp) (fun i hi => ?_) (fun i hi => ?_) hT).mono fun e w' ⟨v', he, hb, ho⟩ => ?_
  · have : i = 0 \/ i = 1 \/ i = 2 := by simp at hi; omega
    rcases this with rfl | rfl | rfl <;> simp <;> omega
  · have : i = 0 \/ i = 1 := by simp at hi; omega
    rcases this with rfl | rfl
    · exact hne
    · exact hne2
  · have h2 : [l, m].flatten = l ++ m := by simp
    rw [h2] at ho; obtain ⟨a, c, rfl⟩ := owns_slice ho; exact ⟨a, c, he, hb, opsV_of_owns ho⟩
end Go.Proofs.YtobopjjmhginlabGreatDoor
