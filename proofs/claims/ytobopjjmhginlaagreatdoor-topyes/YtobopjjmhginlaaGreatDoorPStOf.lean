import Derived.Test.YtobopjjmhginlaaGreatDoorPSg
namespace Go.Proofs.YtobopjjmhginlaaGreatDoor
open Go.ChangeShapes Go.WideShapes Go.ChangeAt Go.RowKit Go.Deep Go.Maps
open Terms Tm
set_option maxHeartbeats 6400000
set_option maxRecDepth 20000
variable {Pz : Nat -> Prop}
theorem keyedInt : Keyed Tryz.prog 3 := int_keyed Tryz.underlying3
theorem zeroState (w : World) : (zeroValue 138).run Tryz.prog w = .ok (.agg #[.slice none 0 0, .slice none 0 0, .slice none 0 0]) w := by kernel_rfl
theorem keyI {x : Int} (h : -9223372036854775808 <= x /\ x <= 9223372036854775807) : keyOf Tryz.prog 3 (.int .i64 x) = some (.int .i64 x) := keyOf_int_mk Tryz.underlying3 (WalkArith.wf_i64 (by omega))
theorem owns_ge {w : World} {base n : Nat} {v : Value} {t : TypeId} {s : Nat} {xs : List Value} (h : w.ownsRow base t s v n xs) : ∀ (a : Addr) (k c : Nat), v = .slice (some a) k c -> base <= a.block := by
  intro a k c e
  rcases h.2 with ⟨h0, _⟩ | ⟨g, cap, cur, h1, h2, _⟩
  · rw [h0] at e; simp at e
  · rw [h1] at e
    injection e with e _ _
    injection e with e
    subst e; exact h2
def St3 (w : World) (b : Nat) (x y z : Value) : Prop := b < w.heap.size /\ (w.cell? ⟨b, 0, none⟩ = some x /\ w.cell? ⟨b, 1, none⟩ = some y /\ w.cell? ⟨b, 2, none⟩ = some z) /\ w.frozen? ⟨b, 0, none⟩ = false /\ w.frozen? ⟨b, 1, none⟩ = false /\ w.frozen? ⟨b, 2, none⟩ = false
theorem St3.new (w : World) (x y z : Value) (t : TypeId) : St3 (w.alloc (.cells #[x, y, z] t)) w.heap.size x y z := by
  refine ⟨by simp, ⟨?_, ?_, ?_⟩, ?_, ?_, ?_⟩ <;> simp [go_sem]
theorem St3.later {w w' : World} {b : Nat} {x y z : Value} (h : St3 w b x y z) (hb : Below w.heap.size w w') : St3 w' b x y z :=
  ⟨Nat.lt_of_lt_of_le h.1 hb.size, ⟨(hb.cell (p := ⟨b, 0, none⟩) h.1).trans h.2.1.1, (hb.cell (p := ⟨b, 1, none⟩) h.1).trans h.2.1.2.1, (hb.cell (p := ⟨b, 2, none⟩) h.1).trans h.2.1.2.2⟩, (hb.frozen (p := ⟨b, 0, none⟩) h.1).trans h.2.2.1, (hb.frozen (p := ⟨b, 1, none⟩) h.1).trans h.2.2.2.1, (hb.frozen (p := ⟨b, 2, none⟩) h.1).trans h.2.2.2.2⟩
def StPost (Pz : Nat -> Prop) (w0 w : World) (B bs bl n : Nat) (va vr pv fv : Value) (m : Mo) (ps : List (List (Int × Int))) (l : List (Int × Int)) (ho : Option Addr) (hc : Nat) (code : Int) (e : Ending) (w' : World) : Prop :=
  Sk bs bl w w' /\ Hid (SvOk Pz w0 w' B bs bl (n + 1) va vr pv fv m ps l ho hc) /\ ((wcode m code = 0 /\ ∃ lo lc no nc so sc, e = .returned (.tuple #[.agg #[.slice lo ps.length lc, .slice no (nextL m code).length nc, .slice so (2 ^ (aheadL l).length) sc], .int .i64 0]) /\ Hid (StOk Pz w' m ps l code (.agg #[.slice lo ps.length lc, .slice no (nextL m code).length nc, .slice so (2 ^ (aheadL l).length) sc]))) \/ (wcode m code ≠ 0 /\ e = .returned (.tuple #[.agg #[.slice none 0 0, .slice none 0 0, .slice none 0 0], .int .i64 (wcode m code)])))
theorem stateOf_known (w0 w : World) (B bs bl n : Nat) (va vr pv fv : Value) (m : Mo) (ps : List (List (Int × Int))) (l : List (Int × Int)) (ho : Option Addr) (hc : Nat) (code : Int) (hI : -9223372036854775808 <= code /\ code <= 9223372036854775807) (hm0 : mcode m = 0) (hS : SvOk Pz w0 w B bs bl n va vr pv fv m ps l ho hc)
    (f : Lit -> Option Value) (hf : MapIs w 3 bs n f) (hfs : ∀ kl v, f kl = some v -> ∃ code, kl = .int .i64 code /\ (0 <= code /\ code < prodTo m.vars m.vars.length) /\ StOk Pz w m ps l code v) (v : Value) (hv : f (.int .i64 code) = some v) :
    Calls Tryz.prog 65 #[.pointer (some ⟨B, 0, none⟩), .int .i64 code] w (StPost Pz w0 w B bs bl n va vr pv fv m ps l ho hc code) := by
  obtain ⟨c', e1, hcr, hst⟩ := hfs _ _ hv
  injection e1 with _ e1
  subst e1; have hw0 := wcode_yes hm0 hcr; obtain ⟨lo, lc, no, nc, so, sc, rfl, _⟩ := id hst; obtain ⟨W1, hW1⟩ : ∃ W1, W1 = w.alloc (.cells #[.slice none 0 0, .slice none 0 0, .slice none 0 0] 138) := ⟨_, rfl⟩
  have hb1 : Below w.heap.size w W1 := by rw [hW1]; exact (Below.refl _ _).alloc (Nat.le_refl _) _
  have h4 : St3 W1 w.heap.size (.slice none 0 0) (.slice none 0 0) (.slice none 0 0) := by rw [hW1]; exact St3.new _ _ _ _ _
  have hlk : (Instr.lookup 77 (.map (some bs)) (.int .i64 code) true).run Tryz.prog W1 = .ok (.tuple #[.agg #[.slice lo ps.length lc, .slice no (nextL m code).length nc, .slice so (2 ^ (aheadL l).length) sc], .bool true]) W1 := by
    have := (hf.kept (hb1.block _ hf.lt)).look keyedInt Tryz.underlying77 (zeroState _) (keyI hI); rw [hv] at this; exact this
  have c5 := (hS.box.later hb1).c5; have HFin : Hid (∀ w', Below w.heap.size w w' -> Sk bs bl w w' /\ SvOk Pz w0 w' B bs bl (n + 1) va vr pv fv m ps l ho hc /\ StOk Pz w' m ps l code (.agg #[.slice lo ps.length lc, .slice no (nextL m code).length nc, .slice so (2 ^ (aheadL l).length) sc])) := fun w' h => ⟨Sk.of h, (hS.below h).mono (Nat.le_succ _), hst.below h⟩
  have HW : Hid (wcode m code = 0) := hw0; unfold StPost; generalize ps.length = pn at *; generalize (nextL m code).length = nn at *; generalize 2 ^ (aheadL l).length = N at *; obtain ⟨hl4, ⟨k0, k1, k2⟩, g0, g1, g2⟩ := id h4; have HH4 : Hid (St3 W1 w.heap.size (.slice none 0 0) (.slice none 0 0) (.slice none 0 0)) := h4; clear hS hf hfs hv hst hw0 h4; subst hW1
  go_enter Tryz.func65, Tryz.ntmps65
  go_wp2_with fail
  have hb : Below w.heap.size w ((w.alloc (.cells #[.slice lo pn lc, .slice no nn nc, .slice so N sc] 138)).alloc (.cells #[.slice lo pn lc, .slice no nn nc, .slice so N sc] 138)) := ((Below.refl _ _).alloc (Nat.le_refl _) _).alloc (by simp) _
  obtain ⟨r1, r2, r3⟩ := HFin.out _ hb; refine bodyPost_ret (v := .tuple #[.agg #[.slice lo pn lc, .slice no nn nc, .slice so N sc], .int .i64 0]) ?_ rfl ⟨r1, r2, .inl ⟨HW.out, lo, lc, no, nc, so, sc, rfl, r3⟩⟩
  simp [results, Tryz.results65, go_sem]
theorem BoolsV.setBox {w : World} {v : Value} {l : List Bool} {p : Addr} {a : Option Addr} {n c : Nat} (h : BoolsV w v l) (hc : w.cell? p = some (.slice a n c)) (u : Value) : BoolsV (w.setCell p u) v l := by
  obtain ⟨ao, cap, rfl, h⟩ := h; refine ⟨ao, cap, rfl, fun hne => ?_⟩
  obtain ⟨b, off, rfl, hlt, hat⟩ := h hne; refine ⟨b, off, rfl, by simpa using hlt, fun i hi => ?_⟩
  have h1 := hat i hi
  have hne2 : (⟨b, off + i, none⟩ : Addr) ≠ p := by
    intro e; rw [e, hc] at h1; simp at h1
  rw [World.cell?_setCell_other _ _ _ _ hne2.symm]
  exact h1
theorem IntsV.setBox {w : World} {v : Value} {l : List Int} {p : Addr} {a : Option Addr} {n c : Nat} (h : IntsV w v l) (hc : w.cell? p = some (.slice a n c)) (u : Value) : IntsV (w.setCell p u) v l := by
  obtain ⟨ao, cap, rfl, h⟩ := h; refine ⟨ao, cap, rfl, fun hne => ?_⟩
  obtain ⟨b, off, rfl, hlt, hat⟩ := h hne; refine ⟨b, off, rfl, by simpa using hlt, fun i hi => ?_⟩
  have h1 := hat i hi
  have hne2 : (⟨b, off + i, none⟩ : Addr) ≠ p := by
    intro e; rw [e, hc] at h1; simp at h1
  rw [World.cell?_setCell_other _ _ _ _ hne2.symm]
  exact h1
theorem Sk.setNew {bs bl : Nat} {w w' : World} (h : Sk bs bl w w') {p : Addr} (hp : w.heap.size <= p.block) (v : Value) : Sk bs bl w (w'.setCell p v) :=
  ⟨h.os, h.tape, h.output, by simpa using h.size, fun i hi h1 h2 => (RowKit.Below.heap_setCell _ _ _ _ (by omega)).trans (h.block i hi h1 h2)⟩
theorem SvOk.putN {w0 w w' : World} {B bs bl n : Nat} {va vr pv fv : Value} {m : Mo} {ps : List (List (Int × Int))} {l : List (Int × Int)} {ho : Option Addr} {hc : Nat} (h : SvOk Pz w0 w B bs bl n va vr pv fv m ps l ho hc) {f : Lit -> Option Value} {code : Int} {v : Value} (hs : Sk bs bl w w') (hbl : w'.heap[bl]? = w.heap[bl]?) (h2 : ∀ kl v, f kl = some v -> ∃ code, kl = .int .i64 code /\ (0 <= code /\ code < prodTo m.vars m.vars.length) /\ StOk Pz w m ps l code v)
    (hm : MapIs w' 3 bs (n + 1) (fput f (.int .i64 code) v)) (hc' : 0 <= code /\ code < prodTo m.vars m.vars.length) (hv : StOk Pz w' m ps l code v) : SvOk Pz w0 w' B bs bl (n + 1) va vr pv fv m ps l ho hc := by
  have ht := h.two; obtain ⟨g, h3, h4⟩ := h.li; refine ⟨h.box.sk hs ht, h.bel.trans (hs.below h.lo1 h.lo2 h.bel.size), h.lo1, h.lo2, h.ne, h.ah.sk hs ht, h.aty.sk hs ht, fun b hb2 => h.up b (Nat.le_trans hs.size hb2), h.aP, ⟨_, hm, fun kl u hu => ?_⟩, ⟨g, (h3.kept hbl).mono (Nat.le_succ _), h4⟩⟩
  by_cases hk : kl = .int .i64 code
  · subst hk
    rw [fput_same] at hu
    cases hu
    exact ⟨code, rfl, hc', hv⟩
  · rw [fput_other hk] at hu
    obtain ⟨c, e1, e2, e3⟩ := h2 kl u hu; exact ⟨c, e1, e2, e3.sk hs ht⟩
theorem stateOf_out (w0 w : World) (B bs bl n : Nat) (va vr pv fv : Value) (m : Mo) (ps : List (List (Int × Int))) (l : List (Int × Int)) (ho : Option Addr) (hc : Nat) (code : Int) (hI : -9223372036854775808 <= code /\ code <= 9223372036854775807) (hB : 0 < w0.heap.size) (hT : TabAt w0) (hV : TaskV w0 va vr pv fv m ps l) (hk : tkcode m ps l = 0) (hS : SvOk Pz w0 w B bs bl n va vr pv fv m ps l ho hc)
    (f : Lit -> Option Value) (hf : MapIs w 3 bs n f) (hv : f (.int .i64 code) = none) (hw : wcode m code ≠ 0) :
    Calls Tryz.prog 65 #[.pointer (some ⟨B, 0, none⟩), .int .i64 code] w (StPost Pz w0 w B bs bl n va vr pv fv m ps l ho hc code) := by
  obtain ⟨hp0, _⟩ := tk_zero hk; obtain ⟨ao, ac, rfl⟩ := hV.mo.1.shape; obtain ⟨ro, rc, rfl⟩ := hV.mo.2.shape; obtain ⟨po, pc, rfl⟩ := hV.ps.shape; obtain ⟨W1, hW1⟩ : ∃ W1, W1 = w.alloc (.cells #[.slice none 0 0, .slice none 0 0, .slice none 0 0] 138) := ⟨_, rfl⟩
  have hb1 : Below w.heap.size w W1 := by rw [hW1]; exact (Below.refl _ _).alloc (Nat.le_refl _) _
  have hlk : (Instr.lookup 77 (.map (some bs)) (.int .i64 code) true).run Tryz.prog W1 = .ok (.tuple #[.agg #[.slice none 0 0, .slice none 0 0, .slice none 0 0], .bool false]) W1 := by
    have := (hf.kept (hb1.block _ hf.lt)).look keyedInt Tryz.underlying77 (zeroState _) (keyI hI); rw [hv] at this; exact this
  have c5 := (hS.box.later hb1).c5; have hb2 : Below w.heap.size w (W1.alloc (.cells #[.slice none 0 0, .slice none 0 0, .slice none 0 0] 138)) := hb1.alloc hb1.size _
  have HLe : Hid (∀ w1, Below w.heap.size w w1 -> Calls Tryz.prog 42 #[.agg #[.slice ao m.vars.length ac, .slice ro m.rules.length rc], .slice po ps.length pc, .int .i64 code] w1 fun e w' => ∃ lo ln lc, e = .returned (.tuple #[.slice lo ln lc, .int .i64 (wcode m code)]) /\ Below w1.heap.size w1 w') := fun w1 h => by
    have h0 := hS.bel.trans (h.mono hS.bel.size); refine (letter_any _ _ _ m ps code w1 (Nat.lt_of_lt_of_le hB h0.size) (hT.below h0 hB) (hV.mo.below h0) (hV.ps.below h0)).mono fun e w' ⟨v, h1, h2, h3⟩ => ?_
    have e1 : letC m ps code = wcode m code := by unfold letC; rw [if_pos hp0]; obtain ⟨lo, lc, rfl, _⟩ := h3; exact ⟨lo, _, lc, by rw [h1, e1], h2⟩
  have HSB : Hid (∀ w1, Below w.heap.size w w1 -> w1.cell? ⟨B, 0, none⟩ = some (.slice ao m.vars.length ac) /\ w1.cell? ⟨B, 1, none⟩ = some (.slice ro m.rules.length rc) /\ w1.cell? ⟨B, 2, none⟩ = some (.slice po ps.length pc)) := fun w1 h => ⟨(hS.box.later h).c0, (hS.box.later h).c1, (hS.box.later h).c2⟩
  have HFin : Hid (∀ w', Below w.heap.size w w' -> Sk bs bl w w' /\ SvOk Pz w0 w' B bs bl (n + 1) (.slice ao m.vars.length ac) (.slice ro m.rules.length rc) (.slice po ps.length pc) fv m ps l ho hc) := fun w' h => ⟨Sk.of h, (hS.below h).mono (Nat.le_succ _)⟩
  have H4 : Hid (∀ w', Below (w.heap.size + 1) W1 w' -> w'.cell? ⟨w.heap.size, 0, none⟩ = some (.slice none 0 0) /\ w'.cell? ⟨w.heap.size, 1, none⟩ = some (.slice none 0 0) /\ w'.cell? ⟨w.heap.size, 2, none⟩ = some (.slice none 0 0) /\ w'.frozen? ⟨w.heap.size, 0, none⟩ = false /\ w'.frozen? ⟨w.heap.size, 1, none⟩ = false /\ w'.frozen? ⟨w.heap.size, 2, none⟩ = false) := fun w' h => by
    have h3 : St3 W1 w.heap.size (.slice none 0 0) (.slice none 0 0) (.slice none 0 0) := by rw [hW1]; exact St3.new _ _ _ _ _
    obtain ⟨_, ⟨a, b, c⟩, d, e, f⟩ := h3; have hlt : w.heap.size < w.heap.size + 1 := Nat.lt_succ_self _
    exact ⟨(h.cell (p := ⟨w.heap.size, 0, none⟩) hlt).trans a, (h.cell (p := ⟨w.heap.size, 1, none⟩) hlt).trans b, (h.cell (p := ⟨w.heap.size, 2, none⟩) hlt).trans c, (h.frozen (p := ⟨w.heap.size, 0, none⟩) hlt).trans d, (h.frozen (p := ⟨w.heap.size, 1, none⟩) hlt).trans e, (h.frozen (p := ⟨w.heap.size, 2, none⟩) hlt).trans f⟩
  have hz1 : W1.heap.size = w.heap.size + 1 := by rw [hW1]; simp
  unfold StPost; generalize wcode m code = wc at *; generalize m.vars.length = vn at *; generalize m.rules.length = rn at *; generalize ps.length = pn at *; clear hS hf hv hT hV hk hp0; obtain ⟨W2, hW2⟩ : ∃ W2, W2 = W1.alloc (.cells #[.slice none 0 0, .slice none 0 0, .slice none 0 0] 138) := ⟨_, rfl⟩
  have hk2 : Below (w.heap.size + 1) W1 W2 := by rw [hW2]; exact (Below.refl _ _).alloc (by omega) _
  have hbw2 : Below w.heap.size w W2 := by rw [hW2]; exact hb2
  have hz2 : w.heap.size + 1 <= W2.heap.size := by rw [hW2]; simp [hz1]
  rw [hW1] at hW2; subst hW1
  go_enter Tryz.func65, Tryz.ntmps65
  go_wp2_with fail
  rw [<- hW2]; clear hW2 hlk c5; have hle := HLe.out _ hbw2.drew; have hB0 : Below W2.heap.size W2 W2 := Below.refl _ _; have hBw := hB0.drew
  go_region_held3 (fun w' => w'.cell? ⟨B, 0, none⟩ = some (.slice ao vn ac) /\ w'.cell? ⟨B, 1, none⟩ = some (.slice ro rn rc) /\ w'.cell? ⟨B, 2, none⟩ = some (.slice po pn pc))
    (first | exact HSB.out _ hb12 | exact HSB.out _ hbw2.drew | exact HSB.out _ hbw2)
    (first
      | (go_at_call 42; refine hle.mono ?_; rintro e w3 ⟨lo, ln, lc, rfl, hb3⟩; have hb12 := hbw2.drew.trans (hb3.mono hbw2.drew.size); have hk3 := hk2.drew.trans (hb3.mono hz2)))
  obtain ⟨q0, q1, q2, q3, q4, q5⟩ := H4.out _ hk3
  go_wp2_with fail
  have hbF := ((hb12.setCell (p := ⟨w.heap.size, 0, none⟩) (Nat.le_refl _) (.slice none 0 0)).setCell (p := ⟨w.heap.size, 1, none⟩) (Nat.le_refl _) (.slice none 0 0)).setCell (p := ⟨w.heap.size, 2, none⟩) (Nat.le_refl _) (.slice none 0 0); obtain ⟨r1, r2⟩ := HFin.out _ hbF
  refine bodyPost_ret (v := .tuple #[.agg #[.slice none 0 0, .slice none 0 0, .slice none 0 0], .int .i64 wc]) ?_ rfl ⟨r1, r2, .inr ⟨hw, rfl⟩⟩
  simp [results, Tryz.results65, go_sem, q0, q1, q2]
structure SgAt (w4 wr : World) (N k : Nat) (sg : Nat -> Int) (lv nv : Value) : Prop where
  bel : Below w4.heap.size w4 wr
  row : wr.rowIs w4.heap.size 3 N (fun j => .int .i64 (if j < k then sg j else 0))
  box : St3 wr (w4.heap.size + 1) lv nv (.slice (some ⟨w4.heap.size, 0, none⟩) N N)
theorem SgAt.start (w4 : World) (N : Nat) (sg : Nat -> Int) (lv nv : Value) : SgAt w4 ((w4.alloc (.cells (madeCells #[.int .i64 0] N) 3)).alloc (.cells #[lv, nv, .slice (some ⟨w4.heap.size, 0, none⟩) N N] 138)) N 0 sg lv nv := by
  refine ⟨((Below.refl _ _).alloc (Nat.le_refl _) _).alloc (by simp) _, ?_, ?_⟩
  · exact ((World.rowIs_made w4 (.int .i64 0) N 3).alloc _).congr (fun j _ => by simp)
  · have := St3.new (w4.alloc (.cells (madeCells #[.int .i64 0] N) 3)) lv nv (.slice (some ⟨w4.heap.size, 0, none⟩) N N) 138
    rw [World.size_alloc] at this; exact this
theorem SgAt.later {w4 wr w' : World} {N k : Nat} {sg : Nat -> Int} {lv nv : Value} (h : SgAt w4 wr N k sg lv nv) (hb : Below wr.heap.size wr w') : SgAt w4 w' N k sg lv nv :=
  ⟨h.bel.trans (hb.mono h.bel.size), h.row.of_block (hb.block _ h.row.lt), h.box.later hb⟩
theorem SgAt.put {w4 wr : World} {N k : Nat} {sg : Nat -> Int} {lv nv : Value} (h : SgAt w4 wr N k sg lv nv) : SgAt w4 (wr.setCell ⟨w4.heap.size, k, none⟩ (.int .i64 (sg k))) N (k + 1) sg lv nv := by
  refine ⟨h.bel.setCell (p := ⟨w4.heap.size, k, none⟩) (Nat.le_refl _) _, (h.row.set k _).congr (fun j hj => ?_), ?_⟩
  · by_cases e : j = k
    · subst e
      rw [if_pos rfl, if_pos (Nat.lt_succ_self _)]
    · rw [if_neg e]
      by_cases h1 : j < k
      · rw [if_pos h1, if_pos (by omega)]
      · rw [if_neg h1, if_neg (by omega)]
  · obtain ⟨h0, ⟨a, b, c⟩, d, e, f⟩ := h.box
    refine ⟨by simpa using h0, ⟨?_, ?_, ?_⟩, ?_, ?_, ?_⟩ <;> simp [go_sem, a, b, c, d, e, f]
theorem SgAt.done {w4 wr : World} {N : Nat} {sg : Nat -> Int} {lv nv : Value} (h : SgAt w4 wr N N sg lv nv) : IntsV wr (.slice (some ⟨w4.heap.size, 0, none⟩) N N) ((List.range N).map sg) := by
  refine ⟨some ⟨w4.heap.size, 0, none⟩, N, by simp, fun _ => ⟨w4.heap.size, 0, rfl, h.row.lt, fun i hi => ?_⟩⟩
  have hi' : i < N := by simpa using hi
  rw [Nat.zero_add, h.row.cell hi', if_pos hi']; simp [List.getD_eq_getElem?_getD, hi']
theorem stateOf_new (w0 w : World) (B bs bl n : Nat) (va vr pv fv : Value) (m : Mo) (ps : List (List (Int × Int))) (l : List (Int × Int)) (ho : Option Addr) (hc : Nat) (code : Int) (hI : -9223372036854775808 <= code /\ code <= 9223372036854775807) (hB : 0 < w0.heap.size) (hT : TabAt w0) (hV : TaskV w0 va vr pv fv m ps l) (hk : tkcode m ps l = 0) (hS : SvOk Pz w0 w B bs bl n va vr pv fv m ps l ho hc) (hn : n < 1000000000000)
    (f : Lit -> Option Value) (hf : MapIs w 3 bs n f) (hfs : ∀ kl v, f kl = some v -> ∃ code, kl = .int .i64 code /\ (0 <= code /\ code < prodTo m.vars m.vars.length) /\ StOk Pz w m ps l code v) (hv : f (.int .i64 code) = none) (hcr : 0 <= code /\ code < prodTo m.vars m.vars.length) :
    Calls Tryz.prog 65 #[.pointer (some ⟨B, 0, none⟩), .int .i64 code] w (StPost Pz w0 w B bs bl n va vr pv fv m ps l ho hc code) := by
  obtain ⟨hp0, hl0⟩ := tk_zero hk; obtain ⟨hm0, _⟩ := pcode_m hp0; obtain ⟨_, _, hz, _, h6⟩ := lcode_zero hl0; have hw := wcode_yes hm0 hcr; obtain ⟨ao, ac, rfl⟩ := hV.mo.1.shape; obtain ⟨ro, rc, rfl⟩ := hV.mo.2.shape; obtain ⟨po, pc, rfl⟩ := hV.ps.shape; obtain ⟨fo, fc, rfl, _⟩ := id hV.fo
  obtain ⟨W1, hW1⟩ : ∃ W1, W1 = w.alloc (.cells #[.slice none 0 0, .slice none 0 0, .slice none 0 0] 138) := ⟨_, rfl⟩
  have hb1 : Below w.heap.size w W1 := by rw [hW1]; exact (Below.refl _ _).alloc (Nat.le_refl _) _
  have hlk : (Instr.lookup 77 (.map (some bs)) (.int .i64 code) true).run Tryz.prog W1 = .ok (.tuple #[.agg #[.slice none 0 0, .slice none 0 0, .slice none 0 0], .bool false]) W1 := by
    have := (hf.kept (hb1.block _ hf.lt)).look keyedInt Tryz.underlying77 (zeroState _) (keyI hI); rw [hv] at this; exact this
  have c5 := (hS.box.later hb1).c5; have hb2 : Below w.heap.size w (W1.alloc (.cells #[.slice none 0 0, .slice none 0 0, .slice none 0 0] 138)) := hb1.alloc hb1.size _
  have HLe : Hid (∀ w1, Below w.heap.size w w1 -> Calls Tryz.prog 42 #[.agg #[.slice ao m.vars.length ac, .slice ro m.rules.length rc], .slice po ps.length pc, .int .i64 code] w1 fun e w' => ∃ lo lc, e = .returned (.tuple #[.slice lo ps.length lc, .int .i64 0]) /\ Below w1.heap.size w1 w' /\ Hid (BoolsV w' (.slice lo ps.length lc) (letL m ps code) /\ RowTy w' (.slice lo ps.length lc) 4)) := fun w1 h => by
    have h0 := hS.bel.trans (h.mono hS.bel.size); refine (letter_own _ _ _ m ps code w1 (Nat.lt_of_lt_of_le hB h0.size) (hT.below h0 hB) (hV.mo.below h0) (hV.ps.below h0)).mono fun e w' ⟨v, h1, h2, h3, h4⟩ => ?_
    obtain ⟨t1, t2⟩ := tk_let hk hcr; obtain ⟨lo, lc, rfl, hx⟩ := h3; rw [t2] at h1 h4; exact ⟨lo, lc, by rw [h1, t1], h2, ⟨lo, lc, by rw [t2], hx⟩, h4⟩
  have HNe : Hid (∀ w1, Below w.heap.size w w1 -> Calls Tryz.prog 83 #[.agg #[.slice ao m.vars.length ac, .slice ro m.rules.length rc], .int .i64 code] w1 fun e w' => ∃ no nc, e = .returned (.tuple #[.slice no (nextL m code).length nc, .int .i64 0]) /\ Below w1.heap.size w1 w' /\ Hid (IntsV w' (.slice no (nextL m code).length nc) (nextL m code) /\ RowTy w' (.slice no (nextL m code).length nc) 3 /\ ∀ a, no = some a -> Pz a.block)) := fun w1 h => by
    have h0 := hS.bel.trans (h.mono hS.bel.size); refine (next_own _ _ m code w1 (Nat.lt_of_lt_of_le hB h0.size) (hT.below h0 hB) (hV.mo.below h0) hm0).mono fun e w' ⟨v, h1, h2, h3'⟩ => ?_
    have h4 := RowTy.owns h3'; have h5 := owns_ge h3'; have h3 := intsV_of_owns h3'; have e1 : nxtL m code = nextL m code := by unfold nxtL; rw [if_pos hw]; rw [e1] at h3; obtain ⟨no, nc, rfl, hx⟩ := h3; exact ⟨no, nc, by rw [h1, hw], h2, ⟨no, nc, rfl, hx⟩, h4, fun a e => hS.up _ (Nat.le_trans h.size (h5 a _ _ (by rw [e])))⟩
  have HSg : Hid (∀ (w1 : World) (c : Nat) (lv : Value), Below w.heap.size w w1 -> c < 2 ^ (aheadL l).length -> BoolsV w1 lv (letL m ps code) -> Calls Tryz.prog 84 #[.pointer (some ⟨B, 0, none⟩), lv, .int .i64 (c : Int)] w1 fun e w' => e = .returned (.tuple #[.int .i64 (sgAt l (letL m ps code) c), .int .i64 0]) /\ Below w1.heap.size w1 w') := fun w1 c lv h hcN hlv => by
    have h0 := hS.bel.trans (h.mono hS.bel.size); exact signOf_any B _ _ _ _ lv l (letL m ps code) c ho hc bs bl w1 (Nat.lt_of_lt_of_le hB h0.size) (hT.below h0 hB) (hV.fo.below h0) hlv hz h6 (tk_tru hk hcr hcN).1 (hS.box.later h) (hS.ah.below h)
  have HCl : Hid (∀ w1, Below w.heap.size w w1 -> Calls Tryz.prog 43 #[.pointer (some ⟨B, 0, none⟩)] w1 fun e w' => e = .returned (.int .i64 ((2 ^ (aheadL l).length : Nat) : Int)) /\ w' = w1) := fun w1 h => claims_any B _ _ _ _ ho _ hc bs bl w1 h6 (hS.box.later h)
  have HSB : Hid (∀ w1, Below w.heap.size w w1 -> w1.cell? ⟨B, 0, none⟩ = some (.slice ao m.vars.length ac) /\ w1.cell? ⟨B, 1, none⟩ = some (.slice ro m.rules.length rc) /\ w1.cell? ⟨B, 2, none⟩ = some (.slice po ps.length pc) /\ w1.cell? ⟨B, 5, none⟩ = some (.map (some bs))) := fun w1 h => ⟨(hS.box.later h).c0, (hS.box.later h).c1, (hS.box.later h).c2, (hS.box.later h).c5⟩
  have HPut : Hid (∀ w1, Below w.heap.size w w1 -> ∀ v, ∃ w', (Instr.mapUpdate 77 (.map (some bs)) (.int .i64 code) v).run Tryz.prog w1.drew = .ok () w' /\ MapIs w' 3 bs (n + 1) (fput f (.int .i64 code) v) /\ w1.grownBy w' (some bs)) := fun w1 h v => by
    have hm1 : MapIs w1.drew 3 bs n f := hf.kept (h.block _ hf.lt); obtain ⟨w', h1, h2, h3⟩ := hm1.put keyedInt Tryz.underlying77 (by unfold maxLen; omega) (val := v) (keyI hI) (by simp [WideAt.IsKeyLit])
    exact ⟨w', h1, h2, ⟨h3.os, h3.tape, h3.output, h3.size, h3.block⟩⟩
  have HTwo : Hid (∀ w1, Below w.heap.size w w1 -> TwoMaps w1 bs bl) := fun w1 h => (hS.below h).two
  have H4 : Hid (∀ w', Below (w.heap.size + 1) W1 w' -> St3 w' w.heap.size (.slice none 0 0) (.slice none 0 0) (.slice none 0 0)) := fun w' h => by
    have h3 : St3 W1 w.heap.size (.slice none 0 0) (.slice none 0 0) (.slice none 0 0) := by rw [hW1]; exact St3.new _ _ _ _ _
    obtain ⟨g0, ⟨a, b, c⟩, d, e, f⟩ := h3; have hlt : w.heap.size < w.heap.size + 1 := Nat.lt_succ_self _
    exact ⟨Nat.lt_of_lt_of_le g0 h.size, ⟨(h.cell (p := ⟨w.heap.size, 0, none⟩) hlt).trans a, (h.cell (p := ⟨w.heap.size, 1, none⟩) hlt).trans b, (h.cell (p := ⟨w.heap.size, 2, none⟩) hlt).trans c⟩, (h.frozen (p := ⟨w.heap.size, 0, none⟩) hlt).trans d, (h.frozen (p := ⟨w.heap.size, 1, none⟩) hlt).trans e, (h.frozen (p := ⟨w.heap.size, 2, none⟩) hlt).trans f⟩
  have HPN : Hid (∀ w' v, Sk bs bl w w' -> w'.heap[bl]? = w.heap[bl]? -> MapIs w' 3 bs (n + 1) (fput f (.int .i64 code) v) -> StOk Pz w' m ps l code v -> SvOk Pz w0 w' B bs bl (n + 1) (.slice ao m.vars.length ac) (.slice ro m.rules.length rc) (.slice po ps.length pc) (.slice fo l.length fc) m ps l ho hc) := fun w' v h1 h2 h3 h4 => hS.putN h1 h2 hfs h3 hcr h4
  have hbs : bs < w.heap.size := hf.lt; have hbl : bl < w.heap.size := by obtain ⟨g, h1, _⟩ := hS.li; exact h1.lt
  have hne := hS.ne; have hz1 : W1.heap.size = w.heap.size + 1 := by rw [hW1]; simp
  have hN64 : 2 ^ (aheadL l).length <= 64 := Nat.pow_le_pow_right (show 0 < 2 by decide) h6
  have HStI : Hid (∀ (w' : World) (lo no so : Option Addr) (lc nc sc : Nat), BoolsV w' (.slice lo ps.length lc) (letL m ps code) -> IntsV w' (.slice no (nextL m code).length nc) (nextL m code) -> IntsV w' (.slice so (2 ^ (aheadL l).length) sc) ((List.range (2 ^ (aheadL l).length)).map (sgAt l (letL m ps code))) -> RowTy w' (.slice lo ps.length lc) 4 -> RowTy w' (.slice no (nextL m code).length nc) 3 -> RowTy w' (.slice so (2 ^ (aheadL l).length) sc) 3 -> (∀ a, no = some a -> Pz a.block) -> (∀ a, so = some a -> Pz a.block) -> StOk Pz w' m ps l code (.agg #[.slice lo ps.length lc, .slice no (nextL m code).length nc, .slice so (2 ^ (aheadL l).length) sc])) := fun w' lo no so lc nc sc h1 h2 h3 h4 h5 h6 h7 h8 => ⟨lo, lc, no, nc, so, sc, rfl, h1, h2, h3, h4, h5, h6, h7, h8⟩
  have HUp : Hid (∀ b, w.heap.size <= b -> Pz b) := hS.up
  unfold StPost; have HW : Hid (wcode m code = 0) := hw; generalize sgAt l (letL m ps code) = sg at *; generalize hlt : letL m ps code = lt at *; generalize hnx : nextL m code = nx at *; generalize nx.length = nn at *; generalize m.vars.length = vn at *; generalize m.rules.length = rn at *; generalize ps.length = pn at *; generalize l.length = fn at *; generalize 2 ^ (aheadL l).length = N at *
  clear hS hf hfs hv hT hV hk hp0 hl0 hz h6 hlt hnx hw hm0; obtain ⟨W2, hW2⟩ : ∃ W2, W2 = W1.alloc (.cells #[.slice none 0 0, .slice none 0 0, .slice none 0 0] 138) := ⟨_, rfl⟩
  have hk2 : Below (w.heap.size + 1) W1 W2 := by rw [hW2]; exact (Below.refl _ _).alloc (by omega) _
  have hbw2 : Below w.heap.size w W2 := by rw [hW2]; exact hb2
  have hz2 : w.heap.size + 1 <= W2.heap.size := by rw [hW2]; simp [hz1]
  rw [hW1] at hW2; subst hW1
  go_enter Tryz.func65, Tryz.ntmps65
  go_wp2_with fail
  rw [<- hW2]; clear hW2 hlk c5; have hle := HLe.out _ hbw2.drew; have HSC : Hid (∀ w1, Below w.heap.size w w1 -> w1.cell? ⟨B, 0, none⟩ = some (.slice ao vn ac) /\ w1.cell? ⟨B, 1, none⟩ = some (.slice ro rn rc) /\ w1.cell? ⟨B, 2, none⟩ = some (.slice po pn pc)) := fun w1 h => by obtain ⟨y0, y1, y2, _⟩ := HSB.out _ h; exact ⟨y0, y1, y2⟩
  have hmk := run_make_row' (P := Tryz.prog) 37 3 (.int .i64 0) 8 Tryz.underlying37 infoInt rfl .i64 .i64 N (by omega) (by omega)
  go_region_held3 (fun w' => w'.cell? ⟨B, 0, none⟩ = some (.slice ao vn ac) /\ w'.cell? ⟨B, 1, none⟩ = some (.slice ro rn rc) /\ w'.cell? ⟨B, 2, none⟩ = some (.slice po pn pc))
    (first | exact HSC.out _ hb12 | exact HSC.out _ hbw2.drew | exact HSC.out _ hbw2)
    (first
      | (go_at_call 42; refine hle.mono ?_; rintro e w3 ⟨lo, lc, rfl, hb3, HLv⟩; have hb12 := hbw2.drew.trans (hb3.mono hbw2.drew.size); have hk3 := hk2.drew.trans (hb3.mono hz2)))
  obtain ⟨z0, z1, z2, _⟩ := HSB.out _ hb12; have hnx := HNe.out w3 hb12
  go_wp2_with (first | (go_at_call 83; refine hnx.mono ?_; rintro e w4 ⟨no, nc, rfl, hb4, HNv⟩; have hb14 := hb12.trans (hb4.mono hb12.size); have hk4 := hk3.trans (hb4.mono (Nat.le_trans hz2 hb3.size)); have hcl := HCl.out w4 hb14) | (go_at_call 43; refine hcl.mono ?_; rintro e w5 ⟨rfl, rfl⟩))
  clear hmk hle hnx hcl; have HS0 : Hid (SgAt w5 ((w5.alloc (.cells (madeCells #[.int .i64 0] N) 3)).alloc (.cells #[.slice lo pn lc, .slice no nn nc, .slice (some ⟨w5.heap.size, 0, none⟩) N N] 138)) N 0 sg (.slice lo pn lc) (.slice no nn nc)) := SgAt.start _ _ _ _ _; have HLt : Hid (∀ w', Below w5.heap.size w5 w' -> BoolsV w' (.slice lo pn lc) lt) := fun w' h => (HLv.out.1.below hb4).below h
  generalize (w5.alloc (.cells (madeCells #[.int .i64 0] N) 3)).alloc (.cells #[.slice lo pn lc, .slice no nn nc, .slice (some ⟨w5.heap.size, 0, none⟩) N N] 138) = W5 at *; obtain ⟨_, ⟨x0, x1, x2⟩, _, _, _⟩ := HS0.out.box
  go_wp2_with fail
  go_loopw [12, 66, 9] (fun _ i _ wr => ∃ k : Nat, k <= N /\ i = .int .i64 k /\ Hid (SgAt w5 wr N k sg (.slice lo pn lc) (.slice no nn nc))) (fun _ i _ _ => N - (intOf i).toNat)
  case atStart => exact ⟨0, Nat.zero_le _, rfl, HS0⟩
  case round =>
    obtain ⟨k, hk, rfl, HA⟩ := hrel; have hA := HA.out; obtain ⟨_, ⟨e0, e1, e2⟩, _, _, _⟩ := id hA.box; have hbr := hb14.trans (hA.bel.mono hb14.size)
    by_cases hkN : k < N
    · have hsg := HSg.out wr.drew k _ hbr.drew hkN (HLt.out _ hA.bel.drew)
      have HAd : Hid (∀ w', Below wr.heap.size wr w' -> SgAt w5 w' N k sg (.slice lo pn lc) (.slice no nn nc)) := fun w' h => hA.later h
      have HEB : Hid (∀ w', Below wr.heap.size wr w' -> w'.cell? ⟨w5.heap.size + 1, 2, none⟩ = some (.slice (some ⟨w5.heap.size, 0, none⟩) N N)) := fun w' h => (hA.later h).box.2.1.2.2
      have hB0 : Below wr.heap.size wr wr := Below.refl _ _; have hki : (k : Int) < (N : Int) := by omega
      clear hA HA
      go_wp2_with fail
      go_region_held3 (fun w' => w'.cell? ⟨w5.heap.size + 1, 2, none⟩ = some (.slice (some ⟨w5.heap.size, 0, none⟩) N N))
        (first | exact HEB.out _ hb6 | exact HEB.out _ hB0.drew | exact HEB.out _ hB0 | simp [go_sem, HEB.out _ hb6])
        (first
          | (go_at_call 84; refine hsg.mono ?_; rintro e w6 ⟨rfl, hb6'⟩; have hb6 := hB0.drew.trans (hb6'.mono hB0.drew.size); have hA6 := HAd.out _ hb6; have f0 := hA6.row.cell hkN; have f1 := hA6.row.frozen k; have HA7 := (show Hid _ from hA6.put); clear hA6))
      go_wp2_with fail
      go_roundw
      case rel => exact ⟨k + 1, by omega, by go_num, HA7⟩
      case measure => simp [intOf]; omega
    · obtain rfl : k = N := by omega
      obtain ⟨w7, hput, hm7, hg7⟩ := HPut.out wr hbr (.agg #[.slice lo pn lc, .slice no nn nc, .slice (some ⟨w5.heap.size, 0, none⟩) k k]); obtain ⟨_, _, _, z5⟩ := HSB.out wr hbr; have htw := HTwo.out wr hbr; have hsk : Sk bs bl wr w7 := Sk.grown hg7 (.inl rfl); have hkr := hk4.trans (hA.bel.mono (by have := hb4.size; have := hb3.size; simp at *; omega))
      have hst4 := H4.out _ hkr
      have HFin : Hid (∀ w8, w8 = ((w7.setCell ⟨w.heap.size, 0, none⟩ (.slice lo pn lc)).setCell ⟨w.heap.size, 1, none⟩ (.slice no nn nc)).setCell ⟨w.heap.size, 2, none⟩ (.slice (some ⟨w5.heap.size, 0, none⟩) k k) -> Sk bs bl w w8 /\ SvOk Pz w0 w8 B bs bl (n + 1) (.slice ao vn ac) (.slice ro rn rc) (.slice po pn pc) (.slice fo fn fc) m ps l ho hc /\ StOk Pz w8 m ps l code (.agg #[.slice lo pn lc, .slice no nn nc, .slice (some ⟨w5.heap.size, 0, none⟩) k k])) := fun w8 e8 => by
        obtain ⟨_, ⟨y0, y1, y2⟩, _, _, _⟩ := id hst4; have y0' := hsk.cell htw y0; have y1' := hsk.cell htw y1; have y2' := hsk.cell htw y2; have y1a : (w7.setCell ⟨w.heap.size, 0, none⟩ (.slice lo pn lc)).cell? ⟨w.heap.size, 1, none⟩ = some (.slice none 0 0) := by simp [go_sem, y1']
        have y2a : ((w7.setCell ⟨w.heap.size, 0, none⟩ (.slice lo pn lc)).setCell ⟨w.heap.size, 1, none⟩ (.slice no nn nc)).cell? ⟨w.heap.size, 2, none⟩ = some (.slice none 0 0) := by simp [go_sem, y2']
        have s1 : Sk bs bl w w8 := by
          rw [e8]; exact ((((Sk.of hbr).trans hsk).setNew (p := ⟨w.heap.size, 0, none⟩) (Nat.le_refl _) _).setNew (p := ⟨w.heap.size, 1, none⟩) (Nat.le_refl _) _).setNew (p := ⟨w.heap.size, 2, none⟩) (Nat.le_refl _) _
        have hbk : ∀ i, i < w.heap.size -> w8.heap[i]? = w7.heap[i]? := fun i hi => by
          rw [e8, RowKit.Below.heap_setCell _ _ _ _ (show i ≠ w.heap.size by omega), RowKit.Below.heap_setCell _ _ _ _ (show i ≠ w.heap.size by omega), RowKit.Below.heap_setCell _ _ _ _ (show i ≠ w.heap.size by omega)]
        have hso : StOk Pz w8 m ps l code (.agg #[.slice lo pn lc, .slice no nn nc, .slice (some ⟨w5.heap.size, 0, none⟩) k k]) := by
          rw [e8]; refine HStI.out _ lo no (some ⟨w5.heap.size, 0, none⟩) lc nc k ?_ ?_ ?_ ?_ ?_ ?_ ?_ ?_
          · exact ((((HLt.out wr hA.bel).sk hsk htw).setBox y0' _).setBox y1a _).setBox y2a _
          · exact (((((HNv.out.1.below hA.bel)).sk hsk htw).setBox y0' _).setBox y1a _).setBox y2a _
          · exact (((hA.done.sk hsk htw).setBox y0' _).setBox y1a _).setBox y2a _
          · exact ((((((HLv.out.2.below hb4).below hA.bel).sk hsk htw).setCell _ _ _).setCell _ _ _).setCell _ _ _)
          · exact (((((HNv.out.2.1.below hA.bel).sk hsk htw).setCell _ _ _).setCell _ _ _).setCell _ _ _)
          · refine (((RowTy.sk (fun a n c e => ?_) hsk htw).setCell _ _ _).setCell _ _ _).setCell _ _ _
            injection e with e _ _
            injection e with e
            subst e; obtain ⟨cs, hcs, _⟩ := hA.row; exact ⟨cs, (0, 0), hcs⟩
          · exact HNv.out.2.2
          · intro a e
            injection e with e
            subst e; exact HUp.out _ hb14.size
        refine ⟨s1, HPN.out w8 _ s1 ?_ (hm7.kept (hbk bs hbs)) hso, hso⟩
        rw [hbk bl hbl, hg7.block bl (Nat.lt_of_lt_of_le hbl hbr.size) (by intro e; injection e with e; exact hne e.symm), hbr.block bl hbl]
      obtain ⟨_, ⟨y0, y1, y2⟩, y3, y4, y5⟩ := id hst4; have v0 := hsk.cell htw y0; have v1 := hsk.cell htw y1; have v2 := hsk.cell htw y2; have u0 := hsk.cell htw e0; have u1 := hsk.cell htw e1; have u2 := hsk.cell htw e2; have z7 := hsk.cell htw z5
      have g0 : w7.frozen? ⟨w.heap.size, 0, none⟩ = false := (World.frozen?_of_block (hg7.block w.heap.size hst4.1 (by intro e; injection e with e; omega))).trans y3
      have g1 : w7.frozen? ⟨w.heap.size, 1, none⟩ = false := (World.frozen?_of_block (hg7.block w.heap.size hst4.1 (by intro e; injection e with e; omega))).trans y4
      have g2 : w7.frozen? ⟨w.heap.size, 2, none⟩ = false := (World.frozen?_of_block (hg7.block w.heap.size hst4.1 (by intro e; injection e with e; omega))).trans y5
      clear HA hA hst4 hsk htw hm7 hg7 hkr HSg HLe HNe HCl HSB HPut HTwo H4 HPN HLt HNv HStI HS0
      go_wp2_with fail
      go_region_held3 (fun w' => w'.cell? ⟨B, 5, none⟩ = some (.map (some bs)) /\ w'.cell? ⟨w5.heap.size + 1, 0, none⟩ = some (.slice lo pn lc) /\ w'.cell? ⟨w5.heap.size + 1, 1, none⟩ = some (.slice no nn nc) /\ w'.cell? ⟨w5.heap.size + 1, 2, none⟩ = some (.slice (some ⟨w5.heap.size, 0, none⟩) k k))
        (first | exact ⟨z5, e0, e1, e2⟩ | exact ⟨z7, u0, u1, u2⟩)
        (fail)
      go_wp2_with fail
      obtain ⟨r1, r2, r3⟩ := HFin.out _ rfl; refine bodyPost_ret (v := .tuple #[.agg #[.slice lo pn lc, .slice no nn nc, .slice (some ⟨w5.heap.size, 0, none⟩) k k], .int .i64 0]) ?_ rfl ⟨r1, r2, .inl ⟨HW.out, lo, lc, no, nc, some ⟨w5.heap.size, 0, none⟩, k, rfl, r3⟩⟩
      simp [results, Tryz.results65, go_sem, v0, v1, v2]
theorem stateOf_any (w0 w : World) (B bs bl n : Nat) (va vr pv fv : Value) (m : Mo) (ps : List (List (Int × Int))) (l : List (Int × Int)) (ho : Option Addr) (hc : Nat) (code : Int) (hI : -9223372036854775808 <= code /\ code <= 9223372036854775807) (hB : 0 < w0.heap.size) (hT : TabAt w0) (hV : TaskV w0 va vr pv fv m ps l) (hk : tkcode m ps l = 0) (hS : SvOk Pz w0 w B bs bl n va vr pv fv m ps l ho hc) (hn : n < 1000000000000) :
    Calls Tryz.prog 65 #[.pointer (some ⟨B, 0, none⟩), .int .i64 code] w (StPost Pz w0 w B bs bl n va vr pv fv m ps l ho hc code) := by
  obtain ⟨f, hf, hfs⟩ := hS.st; have hm0 := (pcode_m (tk_zero hk).1).1
  cases hv : f (.int .i64 code) with
  | some v => exact stateOf_known w0 w B bs bl n va vr pv fv m ps l ho hc code hI hm0 hS f hf hfs v hv
  | none =>
    by_cases hcr : 0 <= code /\ code < prodTo m.vars m.vars.length
    · exact stateOf_new w0 w B bs bl n va vr pv fv m ps l ho hc code hI hB hT hV hk hS hn f hf hfs hv hcr
    · exact stateOf_out w0 w B bs bl n va vr pv fv m ps l ho hc code hI hB hT hV hk hS f hf hv (by rw [wcode_no hm0 hcr]; decide)
end Go.Proofs.YtobopjjmhginlaaGreatDoor
