import Derived.Test.YtobopjjmhginlaaGreatDoorPFol0
import Derived.Deep.CutRange
import Derived.Deep.CutBlock
import Derived.Deep.DeepCutAuto
import Derived.Deep.RegionLaw
namespace Go.Proofs.YtobopjjmhginlaaGreatDoor
open Go.ChangeShapes Go.WideShapes Go.ChangeAt Go.RowKit Go.Deep Go.Maps
open Terms Tm
set_option maxHeartbeats 6400000
set_option maxRecDepth 20000
variable {Pz : Nat -> Prop}
theorem zeroAnswer (w : World) : (zeroValue 168).run Tryz.prog w = .ok (.agg #[.bool false]) w := by kernel_rfl
theorem folR_sign {l : List (Int × Int)} {x y y' : List Bool} {c d d' : Int} (hl : y.length = y'.length) (ht : tcode l y d = 0) (ht' : tcode l y' d' = 0) (e : signN l (tru l y d) = signN l (tru l y' d')) : folR l x c y d = folR l x c y' d' := by
  have hf : fcode l x c y d = fcode l x c y' d' := by unfold fcode; rw [hl, ht, ht']; unfold folR; rw [hf]
  split
  · exact decide_eq_decide.2 (fol_sign e)
  · rfl
def FoPost (Pz : Nat -> Prop) (w0 w : World) (B bs bl n : Nat) (va vr pv fv : Value) (m : Mo) (ps : List (List (Int × Int))) (l : List (Int × Int)) (ho : Option Addr) (hc : Nat) (b : Bool) (e : Ending) (w' : World) : Prop :=
  e = .returned (.tuple #[.bool b, .int .i64 0]) /\ Sk bs bl w w' /\ Hid (SvOk Pz w0 w' B bs bl (n + 1) va vr pv fv m ps l ho hc)
def Li8 (w : World) (g : Nat) (y0 y1 y2 y3 y4 y5 : Bool) (c s : Int) : Prop := w.cell? ⟨g, 0, none⟩ = some (.bool y0) /\ w.cell? ⟨g, 1, none⟩ = some (.bool y1) /\ w.cell? ⟨g, 2, none⟩ = some (.bool y2) /\ w.cell? ⟨g, 3, none⟩ = some (.bool y3) /\ w.cell? ⟨g, 4, none⟩ = some (.bool y4) /\ w.cell? ⟨g, 5, none⟩ = some (.bool y5) /\ w.cell? ⟨g, 6, none⟩ = some (.int .i64 c) /\ w.cell? ⟨g, 7, none⟩ = some (.int .i64 s)
theorem Li8.of {w : World} {g : Nat} {y0 y1 y2 y3 y4 y5 : Bool} {c s : Int} {t : TypeId} (h : w.heap[g]? = some (.cells #[.bool y0, .bool y1, .bool y2, .bool y3, .bool y4, .bool y5, .int .i64 c, .int .i64 s] t (0, 0))) : Li8 w g y0 y1 y2 y3 y4 y5 c s := by
  refine ⟨?_, ?_, ?_, ?_, ?_, ?_, ?_, ?_⟩ <;> simp [World.cell?, h]
theorem Li8.later {w w' : World} {g : Nat} {y0 y1 y2 y3 y4 y5 : Bool} {c s : Int} (h : Li8 w g y0 y1 y2 y3 y4 y5 c s) (hg : g < w.heap.size) (hb : Below w.heap.size w w') : Li8 w' g y0 y1 y2 y3 y4 y5 c s := by
  obtain ⟨h0, h1, h2, h3, h4, h5, h6, h7⟩ := h; exact ⟨(hb.cell (p := ⟨g, 0, none⟩) hg).trans h0, (hb.cell (p := ⟨g, 1, none⟩) hg).trans h1, (hb.cell (p := ⟨g, 2, none⟩) hg).trans h2, (hb.cell (p := ⟨g, 3, none⟩) hg).trans h3, (hb.cell (p := ⟨g, 4, none⟩) hg).trans h4, (hb.cell (p := ⟨g, 5, none⟩) hg).trans h5, (hb.cell (p := ⟨g, 6, none⟩) hg).trans h6, (hb.cell (p := ⟨g, 7, none⟩) hg).trans h7⟩
theorem follows_any (w0 w : World) (B bs bl n : Nat) (va vr pv fv : Value) (m : Mo) (ps : List (List (Int × Int))) (l : List (Int × Int)) (ho : Option Addr) (hc : Nat) (x y : List Bool) (c d : Nat) (lo no so lo2 no2 so2 : Option Addr) (lc nn nc sc lc2 nn2 nc2 sc2 : Nat)
    (hB : 0 < w0.heap.size) (hT : TabAt w0) (hV : TaskV w0 va vr pv fv m ps l) (hk : tkcode m ps l = 0) (hS : SvOk Pz w0 w B bs bl n va vr pv fv m ps l ho hc) (hn : n < 1000000000000)
    (hx : BoolsV w (.slice lo ps.length lc) x) (hy : BoolsV w (.slice lo2 ps.length lc2) y) (hsg : IntsV w (.slice so2 (2 ^ (aheadL l).length) sc2) (sgL l y)) (hxl : x.length = ps.length) (hyl : y.length = ps.length) (hcN : c < 2 ^ (aheadL l).length) (hdN : d < 2 ^ (aheadL l).length) :
    Calls Tryz.prog 66 #[.pointer (some ⟨B, 0, none⟩), .agg #[.slice lo ps.length lc, .slice no nn nc, .slice so (2 ^ (aheadL l).length) sc], .int .i64 (c : Int), .agg #[.slice lo2 ps.length lc2, .slice no2 nn2 nc2, .slice so2 (2 ^ (aheadL l).length) sc2], .int .i64 (d : Int)] w (FoPost Pz w0 w B bs bl n va vr pv fv m ps l ho hc (folR l x (c : Int) y (d : Int))) := by
  obtain ⟨hp0, hl0⟩ := tk_zero hk; obtain ⟨_, hps6⟩ := pcode_m hp0; obtain ⟨_, _, hz, _, h6⟩ := lcode_zero hl0; obtain ⟨fo, fc, rfl, _⟩ := id hV.fo; have hN64 : 2 ^ (aheadL l).length <= 64 := Nat.pow_le_pow_right (show 0 < 2 by decide) h6
  have htc : ∀ (z : List Bool) (k : Nat), z.length = ps.length -> k < 2 ^ (aheadL l).length -> tcode l z (k : Int) = 0 := fun z k hz1 hk1 => by
    refine tcode_ok (by rw [hz1]; exact hl0) fun hno => ?_
    unfold ClaimNo at hno; have : ((2 ^ (aheadL l).length : Nat) : Int) = (2 : Int) ^ (aheadL l).length := by push_cast; rfl
    rcases hno with hno | hno
    · omega
    · rw [<- this] at hno; omega
  obtain ⟨g0, hg0, hgl⟩ := hS.li
  obtain ⟨sb, soff, rfl, hsb, hsat⟩ : ∃ sb soff, so2 = some ⟨sb, soff, none⟩ /\ sb < w.heap.size /\ w.cell? ⟨sb, soff + d, none⟩ = some (.int .i64 (sgAt l y d)) := by
    obtain ⟨ao, cap, e1, h1⟩ := hsg
    injection e1 with e1 _ _
    subst e1; obtain ⟨b, off, rfl, hb, hat⟩ := h1 (by intro e; have := congrArg List.length e; rw [sgL_len] at this; simp at this)
    refine ⟨b, off, rfl, hb, ?_⟩
    have := hat d (by rw [sgL_len]; exact hdN)
    rw [this, sgL_at hdN]
  obtain ⟨sg, hsgd⟩ : ∃ sg, sgAt l y d = sg := ⟨_, rfl⟩
  have hsgb : -9223372036854775808 <= sg /\ sg <= 9223372036854775807 := by
    obtain ⟨b0, b1⟩ := signTo_bounds l (tru l y (d : Int)) (aheadL l).length; have e : sg = signTo l (tru l y (d : Int)) (aheadL l).length := by rw [<- hsgd]; rfl
    have : ((2 ^ (aheadL l).length : Nat) : Int) = (2 : Int) ^ (aheadL l).length := by push_cast; rfl
    rw [<- this] at b1; omega
  rw [hsgd] at hsat
  obtain ⟨W3, hW3⟩ : ∃ W3, W3 = ((w.alloc (.cells #[.slice lo ps.length lc, .slice no nn nc, .slice so (2 ^ (aheadL l).length) sc] 138)).alloc (.cells #[.slice lo2 ps.length lc2, .slice no2 nn2 nc2, .slice (some ⟨sb, soff, none⟩) (2 ^ (aheadL l).length) sc2] 138)).alloc (.cells #[.bool false, .bool false, .bool false, .bool false, .bool false, .bool false, .int .i64 (c : Int), .int .i64 sg] 166) := ⟨_, rfl⟩
  have hb3 : Below w.heap.size w W3 := by rw [hW3]; exact (((Below.refl _ _).alloc (Nat.le_refl _) _).alloc (by simp) _).alloc (by simp; omega) _
  have hz3 : W3.heap.size = w.heap.size + 3 := by rw [hW3]; simp
  have hg3 : W3.heap[w.heap.size + 2]? = some (.cells #[.bool false, .bool false, .bool false, .bool false, .bool false, .bool false, .int .i64 (c : Int), .int .i64 sg] 166 (0, 0)) := by
    rw [hW3]
    have := (MapKept.heap_alloc ((w.alloc (.cells #[.slice lo ps.length lc, .slice no nn nc, .slice so (2 ^ (aheadL l).length) sc] 138)).alloc (.cells #[.slice lo2 ps.length lc2, .slice no2 nn2 nc2, .slice (some ⟨sb, soff, none⟩) (2 ^ (aheadL l).length) sc2] 138)) (.cells #[.bool false, .bool false, .bool false, .bool false, .bool false, .bool false, .int .i64 (c : Int), .int .i64 sg] 166)).1
    simpa using this
  obtain ⟨w4, y0, y1, y2, y3, y4, y5, hcopy, hsix, hg4, hgr4⟩ := copy_link W3.drew (w.heap.size + 2) lo ps.length lc x (c : Int) sg 166 3 (hx.below hb3.drew) hxl hps6 hg3
  have hb4 : Below w.heap.size w w4 := ⟨hgr4.os.trans hb3.os, hgr4.tape.trans hb3.tape, hgr4.output.trans hb3.output, Nat.le_trans hb3.size hgr4.size, fun i hi => (hgr4.block i (Nat.lt_of_lt_of_le hi hb3.size) (by intro e; injection e with e; omega)).trans (hb3.block i hi)⟩
  have hli4 := Li8.of hg4; have hlv : linkV x (c : Int) sg = .agg #[.bool y0, .bool y1, .bool y2, .bool y3, .bool y4, .bool y5, .int .i64 (c : Int), .int .i64 sg] := by unfold linkV; rw [hsix]; rfl
  obtain ⟨kl, hkl⟩ := keyLink y0 y1 y2 y3 y4 y5 (c := (c : Int)) (s := sg) (by omega) hsgb
  have hz4 : w.heap.size + 3 <= w4.heap.size := by have := hgr4.size; have e : W3.drew.heap.size = W3.heap.size := rfl; omega
  have hk4 : Below (w.heap.size + 2) W3 w4 := ⟨hgr4.os, hgr4.tape, hgr4.output, hgr4.size, fun i hi => hgr4.block i (by show i < W3.heap.size; omega) (by intro e; injection e with e; omega)⟩
  have HBx : Hid (∀ w', Below (w.heap.size + 2) W3 w' -> w'.cell? ⟨w.heap.size, 0, none⟩ = some (.slice lo ps.length lc) /\ w'.cell? ⟨w.heap.size + 1, 0, none⟩ = some (.slice lo2 ps.length lc2)) := fun w' h => by
    refine ⟨(h.cell (p := ⟨w.heap.size, 0, none⟩) (by show w.heap.size < _; omega)).trans ?_, (h.cell (p := ⟨w.heap.size + 1, 0, none⟩) (by show w.heap.size + 1 < _; omega)).trans ?_⟩ <;> (rw [hW3]; simp [go_sem])
  have hs2 : ∀ o1 o2, ((w.alloc o1).alloc o2).cell? ⟨sb, soff + d, none⟩ = some (.int .i64 sg) := fun o1 o2 => (Below.cell (p := ⟨sb, soff + d, none⟩) (((Below.refl w.heap.size w).alloc (Nat.le_refl _) o1).alloc (by simp) o2) hsb).trans hsat
  have HLk : Hid (∀ w', w'.heap[bl]? = w.heap[bl]? -> (Instr.lookup 78 (.map (some bl)) (.agg #[.bool y0, .bool y1, .bool y2, .bool y3, .bool y4, .bool y5, .int .i64 (c : Int), .int .i64 sg]) true).run Tryz.prog w' = .ok (.tuple #[(g0 kl).getD (.agg #[.bool false]), .bool (g0 kl).isSome]) w') := fun w' h => (hg0.kept h).look keyedLink Tryz.underlying78 (zeroAnswer _) hkl
  have HS6 : Hid (∀ w', Below w.heap.size w w' -> w'.cell? ⟨B, 3, none⟩ = some (.slice fo l.length fc) /\ w'.cell? ⟨B, 6, none⟩ = some (.map (some bl))) := fun w' h => ⟨(hS.box.later h).c3, (hS.box.later h).c6⟩
  have hbl : bl < w.heap.size := hg0.lt; have hdi : (d : Int) < ((2 ^ (aheadL l).length : Nat) : Int) := by omega
  have HLi : Hid (∀ w', Below w4.heap.size w4 w' -> Li8 w' (w.heap.size + 1 + 1) y0 y1 y2 y3 y4 y5 (c : Int) sg) := fun w' h => hli4.later (by omega) h
  unfold FoPost
  cases hgk : g0 kl with
  | some v =>
    obtain ⟨x', c', sg', b, hx'l, hkl', rfl, hall⟩ := hgl kl v hgk; have hinj := keyedLink.inj hkl' (hlv ▸ hkl); obtain ⟨rfl, rfl, rfl⟩ := linkV_inj (hx'l.trans hxl.symm) hinj; have hbv : folR l x' (c : Int) y (d : Int) = b := hall y (d : Int) hyl (htc y d hyl hdN) (by rw [<- hsgd]; rfl)
    rw [hbv]; have HLk2 : Hid (∀ w', w'.heap[bl]? = w.heap[bl]? -> (Instr.lookup 78 (.map (some bl)) (.agg #[.bool y0, .bool y1, .bool y2, .bool y3, .bool y4, .bool y5, .int .i64 (c : Int), .int .i64 sg']) true).run Tryz.prog w' = .ok (.tuple #[.agg #[.bool b], .bool true]) w') := fun w' h => by have := HLk.out w' h; rw [hgk] at this; exact this
    have HFin : Hid (∀ w', Below w.heap.size w w' -> Sk bs bl w w' /\ SvOk Pz w0 w' B bs bl (n + 1) va vr pv (.slice fo l.length fc) m ps l ho hc) := fun w' h => ⟨Sk.of h, (hS.below h).mono (Nat.le_succ _)⟩
    generalize ps.length = pn at *; generalize 2 ^ (aheadL l).length = N at *; generalize l.length = fn at *; clear HLk hS hgl hg0 hall hbv hT hV hx hy hsg htc hli4 hkl' hlv hkl hinj hgr4 hg3 hsix
    go_enter Tryz.func66, Tryz.ntmps66
    go_wp2_with fail
    rw [<- hW3]; obtain ⟨u0, u1⟩ := HBx.out W3 (Below.refl _ _); obtain ⟨v0, v1⟩ := HBx.out w4 hk4; clear hW3
    go_region_held3 (fun w' => w'.cell? ⟨w.heap.size, 0, none⟩ = some (.slice lo pn lc))
      (first | exact u0 | exact v0)
      (fail)
    have hbl4 : w4.heap[bl]? = w.heap[bl]? := hb4.block bl hbl; obtain ⟨_, q6⟩ := HS6.out w4 hb4; obtain ⟨i0, i1, i2, i3, i4, i5, i6, i7⟩ := HLi.out w4 (Below.refl _ _); clear u0 u1 v0 v1 hs2 HBx
    go_wp2_with fail
    go_cut [13, 14] (fun u13 u14 w' => ∃ g13, u13 = .pointer (some ⟨g13, 0, none⟩) /\ u14 = .bool true /\ Below w4.heap.size w4 w' /\ w'.cell? ⟨g13, 0, none⟩ = some (.bool b))
    case first =>
      have hal : Below w4.heap.size w4 (w4.alloc (.cells #[.bool false] 168)) := (Below.refl _ _).alloc (Nat.le_refl _) _; have hlA := HLk2.out w4.drew hbl4; have hlB := HLk2.out (w4.alloc (.cells #[.bool false] 168)).drew ((hal.block bl (Nat.lt_of_lt_of_le hbl hb4.size)).trans hbl4); obtain ⟨_, q6'⟩ := HS6.out _ (hb4.trans (hal.mono hb4.size))
      obtain ⟨j0, j1, j2, j3, j4, j5, j6, j7⟩ := HLi.out _ hal
      go_region_law (fail)
      all_goals go_wp2_with fail
      all_goals go_meet
      all_goals exact ⟨_, rfl, rfl, ((Below.refl _ _).alloc (Nat.le_refl _) _).drew, by simp [go_sem]⟩
    case rest =>
      obtain ⟨g13, rfl, rfl, hb5, d0⟩ := hcut; have hbF := hb4.trans (hb5.mono hb4.size)
      go_wp2_with fail
      go_ret2
      obtain ⟨r1, r2⟩ := HFin.out _ hbF; exact ⟨rfl, r1, r2⟩
  | none =>
    have HLk2 : Hid (∀ w', w'.heap[bl]? = w.heap[bl]? -> (Instr.lookup 78 (.map (some bl)) (.agg #[.bool y0, .bool y1, .bool y2, .bool y3, .bool y4, .bool y5, .int .i64 (c : Int), .int .i64 sg]) true).run Tryz.prog w' = .ok (.tuple #[.agg #[.bool false], .bool false]) w') := fun w' h => by have := HLk.out w' h; rw [hgk] at this; exact this
    have hfc : fcode l x (c : Int) y (d : Int) = 0 := by
      unfold fcode; rw [if_neg (by rw [hxl, hyl]; simp), if_neg (by rw [htc x c hxl hcN]; simp)]
      exact htc y d hyl hdN
    have HFo : Hid (∀ w', Below w.heap.size w w' -> Calls Tryz.prog 85 #[.slice fo l.length fc, .slice lo ps.length lc, .int .i64 (c : Int), .slice lo2 ps.length lc2, .int .i64 (d : Int)] w' fun e w'' => e = .returned (.tuple #[.bool (folR l x (c : Int) y (d : Int)), .int .i64 0]) /\ Below w'.heap.size w' w'') := fun w' h => by
      have h0 := hS.bel.trans (h.mono hS.bel.size); have := lfol_any _ _ _ l x y (c : Int) (d : Int) w' (Nat.lt_of_lt_of_le hB h0.size) (hT.below h0 hB) (hV.fo.below h0) (hx.below h) (hy.below h); rw [hfc] at this; exact this
    have hLO : LinkOk ps l kl (.agg #[.bool (folR l x (c : Int) y (d : Int))]) := ⟨x, (c : Int), sg, _, hxl, hlv ▸ hkl, rfl, fun y' d' h1 h2 h3 => folR_sign (h1.trans hyl.symm) h2 (htc y d hyl hdN) (h3.trans (by rw [<- hsgd]; rfl))⟩
    have HPut : Hid (∀ w', Below w.heap.size w w' -> ∃ w'', (Instr.mapUpdate 78 (.map (some bl)) (.agg #[.bool y0, .bool y1, .bool y2, .bool y3, .bool y4, .bool y5, .int .i64 (c : Int), .int .i64 sg]) (.agg #[.bool (folR l x (c : Int) y (d : Int))])).run Tryz.prog w'.drew = .ok () w'' /\ w'.grownBy w'' (some bl) /\ Sk bs bl w w'' /\ SvOk Pz w0 w'' B bs bl (n + 1) va vr pv (.slice fo l.length fc) m ps l ho hc) := fun w' h => by
      have hm1 : MapIs w'.drew 166 bl n g0 := hg0.kept (h.block _ hg0.lt); obtain ⟨w'', h1, h2, h3⟩ := hm1.put keyedLink Tryz.underlying78 (by unfold maxLen; omega) (val := .agg #[.bool (folR l x (c : Int) y (d : Int))]) hkl (keyedLink.key hkl)
      have h4 : w'.grownBy w'' (some bl) := ⟨h3.os, h3.tape, h3.output, h3.size, h3.block⟩; exact ⟨w'', h1, h4, (Sk.of h).trans (Sk.grown h4 (.inr rfl)), (hS.below h).putL h4 hgl h2 hLO⟩
    generalize folR l x (c : Int) y (d : Int) = b at *; generalize ps.length = pn at *; generalize 2 ^ (aheadL l).length = N at *; generalize l.length = fn at *; clear HLk hS hgl hg0 hT hV hx hy hsg htc hli4 hlv hkl hgr4 hg3 hsix hLO hfc
    go_enter Tryz.func66, Tryz.ntmps66
    go_wp2_with fail
    rw [<- hW3]; obtain ⟨u0, u1⟩ := HBx.out W3 (Below.refl _ _); obtain ⟨v0, v1⟩ := HBx.out w4 hk4; clear hW3
    go_region_held3 (fun w' => w'.cell? ⟨w.heap.size, 0, none⟩ = some (.slice lo pn lc))
      (first | exact u0 | exact v0)
      (fail)
    have hbl4 : w4.heap[bl]? = w.heap[bl]? := hb4.block bl hbl; obtain ⟨_, q6⟩ := HS6.out w4 hb4; obtain ⟨i0, i1, i2, i3, i4, i5, i6, i7⟩ := HLi.out w4 (Below.refl _ _); clear u0 u1 v0 v1 hs2
    go_wp2_with fail
    go_cut [13, 14] (fun u13 u14 w' => ∃ g13, u13 = .pointer (some ⟨g13, 0, none⟩) /\ u14 = .bool false /\ Below w4.heap.size w4 w')
    case first =>
      have hal : Below w4.heap.size w4 (w4.alloc (.cells #[.bool false] 168)) := (Below.refl _ _).alloc (Nat.le_refl _) _; have hlA := HLk2.out w4.drew hbl4; have hlB := HLk2.out (w4.alloc (.cells #[.bool false] 168)).drew ((hal.block bl (Nat.lt_of_lt_of_le hbl hb4.size)).trans hbl4); obtain ⟨_, q6'⟩ := HS6.out _ (hb4.trans (hal.mono hb4.size))
      obtain ⟨j0, j1, j2, j3, j4, j5, j6, j7⟩ := HLi.out _ hal
      go_region_law (fail)
      all_goals go_wp2_with fail
      all_goals go_meet
      all_goals exact ⟨_, rfl, rfl, ((Below.refl _ _).alloc (Nat.le_refl _) _).drew⟩
    case rest =>
      obtain ⟨g13, rfl, rfl, hb5⟩ := hcut; have hbF := hb4.trans (hb5.mono hb4.size)
      have HSF : Hid (∀ w', Below wc.heap.size wc w' -> w'.cell? ⟨B, 3, none⟩ = some (.slice fo fn fc) /\ w'.cell? ⟨w.heap.size, 0, none⟩ = some (.slice lo pn lc) /\ w'.cell? ⟨w.heap.size + 1, 0, none⟩ = some (.slice lo2 pn lc2)) := fun w' h => by
        have h1 := hb5.trans (h.mono hb5.size); obtain ⟨e1, e2⟩ := HBx.out w' (hk4.trans (h1.mono (by omega)))
        exact ⟨(HS6.out w' (hbF.trans (h.mono hbF.size))).1, e1, e2⟩
      have hfo := HFo.out _ hbF.drew; have hB0 : Below wc.heap.size wc wc := Below.refl _ _
      go_wp2_with fail
      go_region_held3 (fun w' => w'.cell? ⟨B, 3, none⟩ = some (.slice fo fn fc) /\ w'.cell? ⟨w.heap.size, 0, none⟩ = some (.slice lo pn lc) /\ w'.cell? ⟨w.heap.size + 1, 0, none⟩ = some (.slice lo2 pn lc2))
        (first | exact HSF.out _ hb6 | exact HSF.out _ hB0.drew | exact HSF.out _ hB0)
        (first
          | (go_at_call 85; refine hfo.mono ?_; rintro e w6 ⟨rfl, hb6'⟩; have hb6 := hB0.drew.trans (hb6'.mono hB0.drew.size)))
      have hbG := hbF.trans (hb6.mono hbF.size); obtain ⟨w7, hput, hg7, r1, r2⟩ := HPut.out _ hbG; obtain ⟨_, z6⟩ := HS6.out _ hbG; obtain ⟨k0, k1, k2, k3, k4, k5, k6, k7⟩ := HLi.out w6 (hb5.trans (hb6.mono hb5.size)); have HR : Hid (Sk bs bl w w7 /\ SvOk Pz w0 w7 B bs bl (n + 1) va vr pv (.slice fo fn fc) m ps l ho hc) := ⟨r1, r2⟩; clear r1 r2 hg7 HPut
      go_wp2_with fail
      go_region_law (fail)
      all_goals go_wp2_with fail
      all_goals go_ret2
      all_goals exact ⟨rfl, HR.out.1, HR.out.2⟩
end Go.Proofs.YtobopjjmhginlaaGreatDoor
