/-
  store.Add.
-/
import Derived.Test.YtncfkpfbjenpjaaUAdd
namespace Go.Proofs.Ytncfkpfbjenpjaa
open Go.ChangeShapes Go.WideShapes Go.ChangeAt Go.RowKit Go.Deep

open Classical in
noncomputable def addC (lo : List Int) (rs : List (List Int)) (x : Int) : List Int × List (List Int) × Bool × Int :=
  if May lo rs then (if 0 ≤ x ∧ x ≤ 2147483647 then (if x ∈ keysL lo rs then (lo, rs, false, 0) else if lo.length + rs.flatten.length = 20000 then ([], [], false, 12) else ((addS lo rs x).1, (addS lo rs x).2, true, 0)) else ([], [], false, 2)) else ([], [], false, 9)
/-- what Add answers. -/
def AdPost (w : World) (r : List Int × List (List Int) × Bool × Int) (e : Ending) (w' : World) : Prop :=
  ∃ xo xc yo yc, e = .returned (.tuple #[.agg #[.slice xo r.1.length xc, .slice yo r.2.1.length yc], .bool r.2.2.1, .int .i64 r.2.2.2]) ∧ Below w.heap.size w w' ∧ Hid (IntsN w' w.heap.size (.slice xo r.1.length xc) r.1) ∧ Hid (LisX w' w.heap.size (.slice yo r.2.1.length yc) r.2.1)
/-- the argument's and the result's box. -/
structure Two (w W0 w1 : World) (x0 x1 : Value) : Prop where
  below : Below w.heap.size w w1
  arg : Bc w1 w.heap.size x0 x1
  res : Bw w1 (w.heap.size + 1) (.slice none 0 0) (.slice none 0 0)
  lt : w.heap.size + 1 < W0.heap.size
theorem Two.start (w : World) (x0 x1 : Value) (t : TypeId) : Two w ((w.alloc (.cells #[x0, x1] t)).alloc (.cells #[.slice none 0 0, .slice none 0 0] t)) ((w.alloc (.cells #[x0, x1] t)).alloc (.cells #[.slice none 0 0, .slice none 0 0] t)) x0 x1 := by
  obtain ⟨hbA, hcA⟩ := Bc.arg w x0 x1 t
  refine ⟨hbA.alloc hbA.size _, hcA.later ((Below.refl _ _).alloc (Nat.le_refl _) _), ?_, by simp⟩
  have := Bw.new (w.alloc (.cells #[x0, x1] t)) (.slice none 0 0) (.slice none 0 0) t
  simpa using this
theorem Two.later {w W0 w1 w2 : World} {x0 x1 : Value} (h : Two w W0 w1 x0 x1) (hb : Below w1.heap.size w1 w2) : Two w W0 w2 x0 x1 :=
  ⟨h.below.trans (hb.mono h.below.size), h.arg.later hb, h.res.later hb, h.lt⟩
theorem Two.end {w W0 w1 : World} {x0 x1 : Value} (h : Two w W0 w1 x0 x1) {lo : List Int} {rs : List (List Int)} (u v : Value) (hx : IntsN w1 W0.heap.size u lo) (hy : LisX w1 W0.heap.size v rs) :
    Below w.heap.size w ((w1.setCell ⟨w.heap.size + 1, 0, none⟩ u).setCell ⟨w.heap.size + 1, 1, none⟩ v) ∧ IntsN ((w1.setCell ⟨w.heap.size + 1, 0, none⟩ u).setCell ⟨w.heap.size + 1, 1, none⟩ v) w.heap.size u lo ∧ LisX ((w1.setCell ⟨w.heap.size + 1, 0, none⟩ u).setCell ⟨w.heap.size + 1, 1, none⟩ v) w.heap.size v rs := by
  have hlt := h.lt
  obtain ⟨⟨_, c0, c1⟩, _, _⟩ := h.res
  have c1' : (w1.setCell ⟨w.heap.size + 1, 0, none⟩ u).cell? ⟨w.heap.size + 1, 1, none⟩ = some (.slice none 0 0) := by simp [go_sem, c1]
  exact ⟨(h.below.setCell (p := ⟨w.heap.size + 1, 0, none⟩) (by simp) _).setCell (p := ⟨w.heap.size + 1, 1, none⟩) (by simp) _, ((hx.setBox c0 _).setBox c1' _).mono (by omega), ((hy.setBox (p := ⟨w.heap.size + 1, 0, none⟩) (by show w.heap.size + 1 < _; omega) c0 _).setBox (p := ⟨w.heap.size + 1, 1, none⟩) (by show w.heap.size + 1 < _; omega) c1' _).mono (by omega)⟩

set_option maxHeartbeats 1600000 in
set_option maxRecDepth 20000 in
/-- Add, where nothing is added. -/
theorem add_bad (lo : List Int) (rs : List (List Int)) (x c : Int) (la ra : Option Addr) (lc rc : Nat) (w : World) (hz : StSz lo rs) (hL : IntsV w (.slice la lo.length lc) lo) (hR : LisV w (.slice ra rs.length rc) rs) (hh : hasC lo rs x = (false, c)) (hc : c ≠ 0) :
    Calls Try.prog 13 #[.agg #[.slice la lo.length lc, .slice ra rs.length rc], .int .i64 x] w (AdPost w ([], [], false, c)) := by
  obtain ⟨W0, hW0⟩ : ∃ W0, W0 = ((w.alloc (.cells #[.slice la lo.length lc, .slice ra rs.length rc] 25)).alloc (.cells #[.slice none 0 0, .slice none 0 0] 25)) := ⟨_, rfl⟩
  have hT : Two w W0 W0 (.slice la lo.length lc) (.slice ra rs.length rc) := by rw [hW0]; exact Two.start w _ _ _
  obtain ⟨_, a0, a1⟩ := id hT.arg
  have hha := has_any lo rs x la ra lc rc W0 hz (hL.below hT.below) (hR.below hT.below)
  rw [hh] at hha
  generalize lo.length = m at *
  generalize rs.length = n at *
  have hc0 : ¬ c = 0 := hc
  clear hL hR hz hh hc
  go_enter Try.func13, Try.ntmps13
  go_wp2_with fail
  rw [← hW0]
  clear hW0
  go_wp2_with (first | (go_at_call 10; refine hha.mono ?_; rintro e w1 ⟨rfl, hb1⟩; have hT1 := hT.later hb1; obtain ⟨⟨_, z0, z1⟩, g0, g1⟩ := id hT1.res))
  obtain ⟨e1, e2, e3⟩ := hT1.end (.slice none 0 0) (.slice none 0 0) (IntsN.nil w1 W0.heap.size) (LisX.nil w1 W0.heap.size)
  refine bodyPost_ret (v := .tuple #[.agg #[.slice none 0 0, .slice none 0 0], .bool false, .int .i64 c]) ?_ rfl ⟨none, 0, none, 0, rfl, e1, e2, e3⟩
  simp [results, Try.results13, go_sem, z0, z1]
set_option maxHeartbeats 1600000 in
set_option maxRecDepth 20000 in
/-- Add, where the key is there. -/
theorem add_has (lo : List Int) (rs : List (List Int)) (x : Int) (la ra : Option Addr) (lc rc : Nat) (w : World) (hz : StSz lo rs) (hL : IntsV w (.slice la lo.length lc) lo) (hR : LisV w (.slice ra rs.length rc) rs) (hm : May lo rs) (hh : hasC lo rs x = (true, 0)) :
    Calls Try.prog 13 #[.agg #[.slice la lo.length lc, .slice ra rs.length rc], .int .i64 x] w (AdPost w (lo, rs, false, 0)) := by
  obtain ⟨W0, hW0⟩ : ∃ W0, W0 = ((w.alloc (.cells #[.slice la lo.length lc, .slice ra rs.length rc] 25)).alloc (.cells #[.slice none 0 0, .slice none 0 0] 25)) := ⟨_, rfl⟩
  have hT : Two w W0 W0 (.slice la lo.length lc) (.slice ra rs.length rc) := by rw [hW0]; exact Two.start w _ _ _
  obtain ⟨_, a0, a1⟩ := id hT.arg
  have hha := has_any lo rs x la ra lc rc W0 hz (hL.below hT.below) (hR.below hT.below)
  have hcl : ∀ i, i < rs.length → (rs.getD i []).length ≤ 20000 := fun i hi => by have := mem_flat_le (getD_mem hi []); have := hm.size.many; omega
  have HCp : Hid (∀ w1, Below w.heap.size w w1 → Calls Try.prog 20 #[.slice ra rs.length rc] w1 fun e w' => ∃ yo yc, e = .returned (.slice yo rs.length yc) ∧ Below w1.heap.size w1 w' ∧ Hid (LisO w' w1.heap.size (.slice yo rs.length yc) rs)) := fun w1 h => copies_any ra rc rs w1 hm.size.runs hcl (hR.below h)
  have HCd : Hid (∀ w1, Below w.heap.size w w1 → Calls Try.prog 19 #[.slice la lo.length lc] w1 fun e w' => ∃ xo xc, e = .returned (.slice xo lo.length xc) ∧ Below w1.heap.size w1 w' ∧ Hid (OwnI w' w1.heap.size (.slice xo lo.length xc) lo)) := fun w1 h => copied_any _ lo w1 hz.loose (hL.below h)
  rw [hh] at hha
  unfold AdPost
  simp only
  generalize lo.length = m at *
  generalize rs.length = n at *
  clear hL hR hz hh hm hcl
  go_enter Try.func13, Try.ntmps13
  go_wp2_with fail
  rw [← hW0]
  clear hW0
  go_wp2_with (first | (go_at_call 10; refine hha.mono ?_; rintro e w1 ⟨rfl, hb1⟩; have hT1 := hT.later hb1))
  have hs1 := hb1.size
  have hT1d := hT1.later ((Below.refl w1.heap.size w1).drew)
  have HT1 : Hid (Two w W0 w1 (.slice la m lc) (.slice ra n rc)) := hT1
  have HSt : Hid (∀ w2, Below w1.heap.size w1 w2 → w2.cell? ⟨w.heap.size, 0, none⟩ = some (.slice la m lc) ∧ w2.cell? ⟨w.heap.size, 1, none⟩ = some (.slice ra n rc)) := fun w2 h => (hT1.later h).arg.2
  have hB0 : Below w1.heap.size w1 w1 := Below.refl _ _
  go_region_held3 (fun w' => w'.cell? ⟨w.heap.size, 0, none⟩ = some (.slice la m lc) ∧ w'.cell? ⟨w.heap.size, 1, none⟩ = some (.slice ra n rc))
    (first | exact HSt.out _ hb13 | exact HSt.out _ hb12 | exact HSt.out _ hB0.drew | exact HSt.out _ hB0 | (obtain ⟨y0, y1⟩ := HSt.out _ hb13; exact ⟨by simp [go_sem, y0], by simp [go_sem, y1]⟩))
    (first
      | (go_at_call 19; refine (HCd.out _ hT1d.below).mono ?_; rintro e w2 ⟨xo, xc, rfl, hb2, hx2⟩; have hb12 := hB0.drew.trans (hb2.mono hB0.drew.size); have hT2 := hT1.later hb12)
      | (go_at_call 20; refine (HCp.out _ hT2.below).mono ?_; rintro e w3 ⟨yo, yc, rfl, hb3, hx3⟩; have hb13 := hb12.trans (hb3.mono hb12.size); have hT3 := hT2.later hb3; obtain ⟨⟨_, z0, z1⟩, g0, g1⟩ := id hT3.res))
  obtain ⟨e1, e2, e3⟩ := hT3.end (.slice xo m xc) (.slice yo n yc) ((hx2.out.later hb3 (Nat.le_refl _)).mono (Nat.le_trans hs1 (by simp))).n (hx3.out.x.mono (Nat.le_trans hs1 hb12.size))
  have HE2 : Hid (IntsN ((w3.setCell ⟨w.heap.size + 1, 0, none⟩ (.slice xo m xc)).setCell ⟨w.heap.size + 1, 1, none⟩ (.slice yo n yc)) w.heap.size (.slice xo m xc) lo) := e2
  have HE3 : Hid (LisX ((w3.setCell ⟨w.heap.size + 1, 0, none⟩ (.slice xo m xc)).setCell ⟨w.heap.size + 1, 1, none⟩ (.slice yo n yc)) w.heap.size (.slice yo n yc) rs) := e3
  clear e2 e3 hT3 hT2 hT1 hT1d hT
  go_wp2_with fail
  refine bodyPost_ret (v := .tuple #[.agg #[.slice xo m xc, .slice yo n yc], .bool false, .int .i64 0]) ?_ rfl ⟨xo, xc, yo, yc, rfl, e1, HE2, HE3⟩
  simp [results, Try.results13, go_sem, z0, z1]

set_option maxHeartbeats 1600000 in
set_option maxRecDepth 20000 in
/-- Add, where the store is full. -/
theorem add_full (lo : List Int) (rs : List (List Int)) (x : Int) (la ra : Option Addr) (lc rc : Nat) (w : World) (hz : StSz lo rs) (hL : IntsV w (.slice la lo.length lc) lo) (hR : LisV w (.slice ra rs.length rc) rs) (hm : May lo rs) (hh : hasC lo rs x = (false, 0)) (hf : lo.length + rs.flatten.length = 20000) :
    Calls Try.prog 13 #[.agg #[.slice la lo.length lc, .slice ra rs.length rc], .int .i64 x] w (AdPost w ([], [], false, 12)) := by
  obtain ⟨W0, hW0⟩ : ∃ W0, W0 = ((w.alloc (.cells #[.slice la lo.length lc, .slice ra rs.length rc] 25)).alloc (.cells #[.slice none 0 0, .slice none 0 0] 25)) := ⟨_, rfl⟩
  have hT : Two w W0 W0 (.slice la lo.length lc) (.slice ra rs.length rc) := by rw [hW0]; exact Two.start w _ _ _
  obtain ⟨_, a0, a1⟩ := id hT.arg
  have hha := has_any lo rs x la ra lc rc W0 hz (hL.below hT.below) (hR.below hT.below)
  have hcl : ∀ i, i < rs.length → (rs.getD i []).length ≤ 20000 := fun i hi => by have := mem_flat_le (getD_mem hi []); have := hm.size.many; omega
  have HCp : Hid (∀ w1, Below w.heap.size w w1 → Calls Try.prog 20 #[.slice ra rs.length rc] w1 fun e w' => ∃ yo yc, e = .returned (.slice yo rs.length yc) ∧ Below w1.heap.size w1 w' ∧ Hid (LisO w' w1.heap.size (.slice yo rs.length yc) rs)) := fun w1 h => copies_any ra rc rs w1 hm.size.runs hcl (hR.below h)
  have HCd : Hid (∀ w1, Below w.heap.size w w1 → Calls Try.prog 19 #[.slice la lo.length lc] w1 fun e w' => ∃ xo xc, e = .returned (.slice xo lo.length xc) ∧ Below w1.heap.size w1 w' ∧ Hid (OwnI w' w1.heap.size (.slice xo lo.length xc) lo)) := fun w1 h => copied_any _ lo w1 hz.loose (hL.below h)
  rw [hh] at hha
  have HCn : Hid (∀ w1, Below w.heap.size w w1 → Calls Try.prog 21 #[.agg #[.slice la lo.length lc, .slice ra rs.length rc]] w1 fun e w' => e = .returned (.int .i64 20000) ∧ Below w1.heap.size w1 w') := fun w1 h => (count_any lo rs la ra lc rc w1 hz (hR.below h)).mono fun e w' ⟨q, h1, h2, h3, _⟩ => ⟨by rw [h1, h3 (by omega) (by omega), hf]; rfl, h2⟩
  generalize lo.length = m at *
  generalize rs.length = n at *
  clear hL hR hz hh hm hcl hf
  go_enter Try.func13, Try.ntmps13
  go_wp2_with fail
  rw [← hW0]
  clear hW0
  go_wp2_with (first | (go_at_call 10; refine hha.mono ?_; rintro e w1 ⟨rfl, hb1⟩; have hT1 := hT.later hb1; obtain ⟨_, q0, q1⟩ := id hT1.arg; have hcn := HCn.out w1 hT1.below) | (go_at_call 21; refine hcn.mono ?_; rintro e w2 ⟨rfl, hb2⟩; have hT2 := hT1.later hb2; obtain ⟨⟨_, z0, z1⟩, g0, g1⟩ := id hT2.res))
  obtain ⟨e1, e2, e3⟩ := hT2.end (.slice none 0 0) (.slice none 0 0) (IntsN.nil w2 W0.heap.size) (LisX.nil w2 W0.heap.size)
  refine bodyPost_ret (v := .tuple #[.agg #[.slice none 0 0, .slice none 0 0], .bool false, .int .i64 12]) ?_ rfl ⟨none, 0, none, 0, rfl, e1, e2, e3⟩
  simp [results, Try.results13, go_sem, z0, z1]

set_option maxHeartbeats 1600000 in
set_option maxRecDepth 20000 in
/-- Add, where the key then lies loose. -/
theorem add_loose (lo : List Int) (rs : List (List Int)) (x : Int) (la ra : Option Addr) (lc rc : Nat) (w : World) (hz : StSz lo rs) (hL : IntsV w (.slice la lo.length lc) lo) (hR : LisV w (.slice ra rs.length rc) rs) (hm : May lo rs) (hh : hasC lo rs x = (false, 0)) (hf : ¬ lo.length + rs.flatten.length = 20000) (h8 : lo.length + 1 < 8) :
    Calls Try.prog 13 #[.agg #[.slice la lo.length lc, .slice ra rs.length rc], .int .i64 x] w (AdPost w (lo ++ [x], rs, true, 0)) := by
  obtain ⟨W0, hW0⟩ : ∃ W0, W0 = ((w.alloc (.cells #[.slice la lo.length lc, .slice ra rs.length rc] 25)).alloc (.cells #[.slice none 0 0, .slice none 0 0] 25)) := ⟨_, rfl⟩
  have hT : Two w W0 W0 (.slice la lo.length lc) (.slice ra rs.length rc) := by rw [hW0]; exact Two.start w _ _ _
  obtain ⟨_, a0, a1⟩ := id hT.arg
  have hha := has_any lo rs x la ra lc rc W0 hz (hL.below hT.below) (hR.below hT.below)
  have hcl : ∀ i, i < rs.length → (rs.getD i []).length ≤ 20000 := fun i hi => by have := mem_flat_le (getD_mem hi []); have := hm.size.many; omega
  have HCp : Hid (∀ w1, Below w.heap.size w w1 → Calls Try.prog 20 #[.slice ra rs.length rc] w1 fun e w' => ∃ yo yc, e = .returned (.slice yo rs.length yc) ∧ Below w1.heap.size w1 w' ∧ Hid (LisO w' w1.heap.size (.slice yo rs.length yc) rs)) := fun w1 h => copies_any ra rc rs w1 hm.size.runs hcl (hR.below h)
  have HCd : Hid (∀ w1, Below w.heap.size w w1 → Calls Try.prog 19 #[.slice la lo.length lc] w1 fun e w' => ∃ xo xc, e = .returned (.slice xo lo.length xc) ∧ Below w1.heap.size w1 w' ∧ Hid (OwnI w' w1.heap.size (.slice xo lo.length xc) lo)) := fun w1 h => copied_any _ lo w1 hz.loose (hL.below h)
  rw [hh] at hha
  have HCn : Hid (∀ w1, Below w.heap.size w w1 → Calls Try.prog 21 #[.agg #[.slice la lo.length lc, .slice ra rs.length rc]] w1 fun e w' => ∃ q : Nat, e = .returned (.int .i64 q) ∧ Below w1.heap.size w1 w' ∧ ¬ q = 20000) := fun w1 h => (count_any lo rs la ra lc rc w1 hz (hR.below h)).mono fun e w' ⟨q, h1, h2, h3, _⟩ => ⟨q, h1, h2, by rw [h3 (by omega) hm.size.many]; exact hf⟩
  have HSn : Hid (∀ (w1 : World) (b : Nat) (v : Value), w1.ownsRow b 3 1 v (lo.length + 1) (ivals lo ++ [.int .i64 x]) → OwnI w1 b v (lo ++ [x])) := fun w1 b v h => OwnI.snoc h
  have HRow : Hid (∀ (w1 : World) (b : Nat) (v : Value), OwnI w1 b v lo → w1.ownsRow b 3 1 v lo.length (ivals lo)) := fun w1 b v h => h
  have hll : (lo ++ [x]).length = lo.length + 1 := by simp
  unfold AdPost
  simp only
  rw [hll]
  generalize lo.length = m at *
  generalize rs.length = n at *
  clear hL hR hz hh hm hcl hf hll
  have h8i : (m : Int) + 1 < 8 := by omega
  go_enter Try.func13, Try.ntmps13
  go_wp2_with fail
  rw [← hW0]
  clear hW0
  go_wp2_with (first | (go_at_call 10; refine hha.mono ?_; rintro e w1 ⟨rfl, hb1⟩; have hT1 := hT.later hb1; obtain ⟨_, q0, q1⟩ := id hT1.arg; have hcn := HCn.out w1 hT1.below; have hs1 := hb1.size) | (go_at_call 21; refine hcn.mono ?_; rintro e w2 ⟨q, rfl, hb2, hq⟩; have hT2 := hT1.later hb2; obtain ⟨_, p0, p1⟩ := id hT2.arg; have hcd := HCd.out w2 hT2.below; have hs2 := Nat.le_trans hs1 hb2.size; have hqi : ¬ (q : Int) = 20000 := (by omega)) | (go_at_call 19; refine hcd.mono ?_; rintro e w3 ⟨xo, xc, rfl, hb3, hx3⟩; have hT3 := hT2.later hb3; have hrow := HRow.out _ _ _ hx3.out) | (at_builtin; refine push_i x rfl _ _ rfl w2.heap.size m xc xo _ rfl hrow rfl (by omega) hb3.size ?_; intro vo cap w4 ho4 hb4 _; have HO4 : Hid (OwnI w4 w2.heap.size (.slice vo (m + 1) cap) (lo ++ [x])) := HSn.out _ _ _ ho4; have hT4 := hT2.later (hb3.trans hb4); obtain ⟨_, r0, r1⟩ := id hT4.arg; have hcp := HCp.out w4 hT4.below; clear ho4 hrow) | (go_at_call 20; refine hcp.mono ?_; rintro e w5 ⟨yo, yc, rfl, hb5, hx5⟩; have hT5 := hT4.later hb5; obtain ⟨⟨_, z0, z1⟩, g0, g1⟩ := id hT5.res))
  obtain ⟨e1, e2, e3⟩ := hT5.end (.slice vo (m + 1) cap) (.slice yo n yc) ((HO4.out.later hb5 (Nat.le_refl _)).mono hs2).n (hx5.out.x.mono (Nat.le_trans hs2 (hb3.trans hb4).size))
  refine bodyPost_ret (v := .tuple #[.agg #[.slice vo (m + 1) cap, .slice yo n yc], .bool true, .int .i64 0]) ?_ rfl ⟨vo, cap, yo, yc, rfl, e1, e2, e3⟩
  simp [results, Try.results13, go_sem, z0, z1]

set_option maxHeartbeats 1600000 in
set_option maxRecDepth 20000 in
/-- Add, where a run is made. -/
theorem add_run (lo : List Int) (rs : List (List Int)) (x : Int) (la ra : Option Addr) (lc rc : Nat) (w : World) (hz : StSz lo rs) (hL : IntsV w (.slice la lo.length lc) lo) (hR : LisV w (.slice ra rs.length rc) rs) (hm : May lo rs) (hh : hasC lo rs x = (false, 0)) (hx : x ∉ keysL lo rs) (hf : ¬ lo.length + rs.flatten.length = 20000) (h8 : ¬ lo.length + 1 < 8) :
    Calls Try.prog 13 #[.agg #[.slice la lo.length lc, .slice ra rs.length rc], .int .i64 x] w (AdPost w ([], runsAdd rs (lo ++ [x]), true, 0)) := by
  obtain ⟨W0, hW0⟩ : ∃ W0, W0 = ((w.alloc (.cells #[.slice la lo.length lc, .slice ra rs.length rc] 25)).alloc (.cells #[.slice none 0 0, .slice none 0 0] 25)) := ⟨_, rfl⟩
  have hT : Two w W0 W0 (.slice la lo.length lc) (.slice ra rs.length rc) := by rw [hW0]; exact Two.start w _ _ _
  obtain ⟨_, a0, a1⟩ := id hT.arg
  have hha := has_any lo rs x la ra lc rc W0 hz (hL.below hT.below) (hR.below hT.below)
  have hcl : ∀ i, i < rs.length → (rs.getD i []).length ≤ 20000 := fun i hi => by have := mem_flat_le (getD_mem hi []); have := hm.size.many; omega
  have HCp : Hid (∀ w1, Below w.heap.size w w1 → Calls Try.prog 20 #[.slice ra rs.length rc] w1 fun e w' => ∃ yo yc, e = .returned (.slice yo rs.length yc) ∧ Below w1.heap.size w1 w' ∧ Hid (LisO w' w1.heap.size (.slice yo rs.length yc) rs)) := fun w1 h => copies_any ra rc rs w1 hm.size.runs hcl (hR.below h)
  have HCd : Hid (∀ w1, Below w.heap.size w w1 → Calls Try.prog 19 #[.slice la lo.length lc] w1 fun e w' => ∃ xo xc, e = .returned (.slice xo lo.length xc) ∧ Below w1.heap.size w1 w' ∧ Hid (OwnI w' w1.heap.size (.slice xo lo.length xc) lo)) := fun w1 h => copied_any _ lo w1 hz.loose (hL.below h)
  rw [hh] at hha
  have HCn : Hid (∀ w1, Below w.heap.size w w1 → Calls Try.prog 21 #[.agg #[.slice la lo.length lc, .slice ra rs.length rc]] w1 fun e w' => ∃ q : Nat, e = .returned (.int .i64 q) ∧ Below w1.heap.size w1 w' ∧ ¬ q = 20000) := fun w1 h => (count_any lo rs la ra lc rc w1 hz (hR.below h)).mono fun e w' ⟨q, h1, h2, h3, _⟩ => ⟨q, h1, h2, by rw [h3 (by have := hm.size.loose; omega) hm.size.many]; exact hf⟩
  have HSn : Hid (∀ (w1 : World) (b : Nat) (v : Value), w1.ownsRow b 3 1 v (lo.length + 1) (ivals lo ++ [.int .i64 x]) → OwnI w1 b v (lo ++ [x])) := fun w1 b v h => OwnI.snoc h
  have HRow : Hid (∀ (w1 : World) (b : Nat) (v : Value), OwnI w1 b v lo → w1.ownsRow b 3 1 v lo.length (ivals lo)) := fun w1 b v h => h
  have hll : (lo ++ [x]).length = lo.length + 1 := by simp
  have hnd : (rs.flatten ++ (lo ++ [x])).Nodup := by
    rw [← List.append_assoc, List.nodup_append]
    exact ⟨hm.nodup, by simp, fun a ha b hb e => by simp at hb; subst hb; subst e; exact hx ha⟩
  have HRi : Hid (∀ (v : Value) (w1 : World), IntsV w1 v (lo ++ [x]) → Calls Try.prog 23 #[v] w1 fun e w' => ∃ ao cap, e = .returned (.slice ao (lo.length + 1) cap) ∧ Below w1.heap.size w1 w' ∧ Hid (IntsN w' w1.heap.size (.slice ao (lo.length + 1) cap) (up (lo ++ [x])))) := fun v w1 h => (risen_any v _ w1 (by rw [hll]; have := hm.size.loose; omega) h).mono fun e w' ⟨ao, cap, h1, h2, h3⟩ => ⟨ao, cap, by rw [← hll]; exact h1, h2, by rw [← hll]; exact h3.out.n⟩
  have HWi : Hid (∀ (B : Nat) (uo : Option Addr) (uc : Nat) (w1 : World), Below w.heap.size w w1 → B ≤ w1.heap.size → IntsN w1 B (.slice uo (lo.length + 1) uc) (up (lo ++ [x])) → Calls Try.prog 22 #[.slice ra rs.length rc, .slice uo (lo.length + 1) uc] w1 fun e w' => ∃ yo yc, e = .returned (.slice yo (runsAdd rs (lo ++ [x])).length yc) ∧ Below w1.heap.size w1 w' ∧ Hid (LisX w' B (.slice yo (runsAdd rs (lo ++ [x])).length yc) (runsAdd rs (lo ++ [x])))) := fun B uo uc w1 hb hBw h => by
    have := withRun_any B ra uo rc uc rs (lo ++ [x]) w1 hm.size.runs (by rw [hll]; have := hm.size.many; omega) hm.rise hnd (hR.below hb) hBw (by rw [hll]; exact h)
    rw [hll] at this
    exact this
  unfold AdPost
  simp only [List.length_nil]
  have hloose := hm.size.loose
  generalize (runsAdd rs (lo ++ [x])).length = rl at *
  generalize lo.length = m at *
  generalize rs.length = n at *
  clear hL hR hz hh hm hcl hf hll hnd hx
  have h8i : ¬ (m : Int) + 1 < 8 := by omega
  go_enter Try.func13, Try.ntmps13
  go_wp2_with fail
  rw [← hW0]
  clear hW0
  go_wp2_with (first | (go_at_call 10; refine hha.mono ?_; rintro e w1 ⟨rfl, hb1⟩; have hT1 := hT.later hb1; obtain ⟨_, q0, q1⟩ := id hT1.arg; have hcn := HCn.out w1 hT1.below; have hs1 := hb1.size) | (go_at_call 21; refine hcn.mono ?_; rintro e w2 ⟨q, rfl, hb2, hq⟩; have hT2 := hT1.later hb2; obtain ⟨_, p0, p1⟩ := id hT2.arg; have hcd := HCd.out w2 hT2.below; have hs2 := Nat.le_trans hs1 hb2.size; have hqi : ¬ (q : Int) = 20000 := (by omega)) | (go_at_call 19; refine hcd.mono ?_; rintro e w3 ⟨xo, xc, rfl, hb3, hx3⟩; have hT3 := hT2.later hb3; have hrow := HRow.out _ _ _ hx3.out) | (at_builtin; refine push_i x rfl _ _ rfl w2.heap.size m xc xo _ rfl hrow rfl (by omega) hb3.size ?_; intro vo cap w4 ho4 hb4 _; have HO4 : Hid (OwnI w4 w2.heap.size (.slice vo (m + 1) cap) (lo ++ [x])) := HSn.out _ _ _ ho4; have hT4 := hT2.later (hb3.trans hb4); obtain ⟨_, r0, r1⟩ := id hT4.arg; clear ho4 hrow))
  have hs4 := Nat.le_trans hs2 (hb3.trans hb4).size
  have HT4 : Hid (Two w W0 w4 (.slice la m lc) (.slice ra n rc)) := hT4
  have HSt : Hid (∀ w2, Below w4.heap.size w4 w2 → w2.cell? ⟨w.heap.size, 0, none⟩ = some (.slice la m lc) ∧ w2.cell? ⟨w.heap.size, 1, none⟩ = some (.slice ra n rc)) := fun w2 h => (hT4.later h).arg.2
  have hB0 : Below w4.heap.size w4 w4 := Below.refl _ _
  have HV4 : Hid (IntsV w4.drew (.slice vo (m + 1) cap) (lo ++ [x])) := HO4.out.v.below hB0.drew
  go_region_held3 (fun w' => w'.cell? ⟨w.heap.size, 0, none⟩ = some (.slice la m lc) ∧ w'.cell? ⟨w.heap.size, 1, none⟩ = some (.slice ra n rc))
    (first | exact HSt.out _ hb46 | exact HSt.out _ hb45 | exact HSt.out _ hB0.drew | exact HSt.out _ hB0 | (obtain ⟨y0, y1⟩ := HSt.out _ hb46; exact ⟨by simp [go_sem, y0], by simp [go_sem, y1]⟩))
    (first
      | (go_at_call 23; refine (HRi.out _ _ HV4.out).mono ?_; rintro e w5 ⟨uo, uc, rfl, hb5, hx5⟩; have hb45 := hB0.drew.trans (hb5.mono hB0.drew.size); have hT5 := hT4.later hb45)
      | (go_at_call 22; refine (HWi.out w4.heap.size _ _ _ hT5.below hb45.size hx5.out).mono ?_; rintro e w6 ⟨yo, yc, rfl, hb6, hx6⟩; have hb46 := hb45.trans (hb6.mono hb45.size); have hT6 := hT5.later hb6; obtain ⟨⟨_, z0, z1⟩, g0, g1⟩ := id hT6.res))
  obtain ⟨e1, e2, e3⟩ := hT6.end (.slice none 0 0) (.slice yo rl yc) (IntsN.nil w6 W0.heap.size) (hx6.out.mono hs4)
  have HE2 : Hid (IntsN ((w6.setCell ⟨w.heap.size + 1, 0, none⟩ (.slice none 0 0)).setCell ⟨w.heap.size + 1, 1, none⟩ (.slice yo rl yc)) w.heap.size (.slice none 0 0) []) := e2
  have HE3 : Hid (LisX ((w6.setCell ⟨w.heap.size + 1, 0, none⟩ (.slice none 0 0)).setCell ⟨w.heap.size + 1, 1, none⟩ (.slice yo rl yc)) w.heap.size (.slice yo rl yc) (runsAdd rs (lo ++ [x]))) := e3
  clear e2 e3
  go_wp2_with fail
  refine bodyPost_ret (v := .tuple #[.agg #[.slice none 0 0, .slice yo rl yc], .bool true, .int .i64 0]) ?_ rfl ⟨none, 0, yo, yc, rfl, e1, HE2, HE3⟩
  simp [results, Try.results13, go_sem, z0, z1]

/-- THE CONTRACT OF Add. -/
theorem add_any (lo : List Int) (rs : List (List Int)) (x : Int) (la ra : Option Addr) (lc rc : Nat) (w : World) (hz : StSz lo rs) (hL : IntsV w (.slice la lo.length lc) lo) (hR : LisV w (.slice ra rs.length rc) rs) :
    Calls Try.prog 13 #[.agg #[.slice la lo.length lc, .slice ra rs.length rc], .int .i64 x] w (AdPost w (addC lo rs x)) := by
  unfold addC
  by_cases hm : May lo rs
  · rw [if_pos hm]
    by_cases hx : 0 ≤ x ∧ x ≤ 2147483647
    · rw [if_pos hx]
      by_cases hk : x ∈ keysL lo rs
      · rw [if_pos hk]
        exact add_has lo rs x la ra lc rc w hz hL hR hm (by unfold hasC; rw [if_pos hm, if_pos hx, decide_eq_true hk])
      · rw [if_neg hk]
        have hh : hasC lo rs x = (false, 0) := by unfold hasC; rw [if_pos hm, if_pos hx, decide_eq_false hk]
        by_cases hf : lo.length + rs.flatten.length = 20000
        · rw [if_pos hf]
          exact add_full lo rs x la ra lc rc w hz hL hR hm hh hf
        · rw [if_neg hf]
          unfold addS
          by_cases h8 : lo.length + 1 < 8
          · rw [if_pos h8]
            exact add_loose lo rs x la ra lc rc w hz hL hR hm hh hf h8
          · rw [if_neg h8]
            exact add_run lo rs x la ra lc rc w hz hL hR hm hh hk hf h8
    · rw [if_neg hx]
      exact add_bad lo rs x 2 la ra lc rc w hz hL hR (by unfold hasC; rw [if_pos hm, if_neg hx]) (by decide)
  · rw [if_neg hm]
    exact add_bad lo rs x 9 la ra lc rc w hz hL hR (by unfold hasC; rw [if_neg hm]) (by decide)
end Go.Proofs.Ytncfkpfbjenpjaa
