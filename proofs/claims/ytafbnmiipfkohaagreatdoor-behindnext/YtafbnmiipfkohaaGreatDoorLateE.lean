/-
  Joined out of PBeh, PBhd, KeepNext, KeepAfter, BnM2, BnWalk, in their order: a claim bears at most so many files.
-/
import Derived.Test.YtafbnmiipfkohaaGreatDoorLateD
import Derived.Test.YtafbnmiipfkohaaGreatDoorKeepStates
import Derived.Test.YtafbnmiipfkohaaGreatDoorLateC
/-
  The contract of the survey's behind.
-/
namespace Go.Proofs.YtafbnmiipfkohaaGreatDoor
open Go.ChangeShapes Go.WideShapes Go.ChangeAt Go.RowKit Go.Deep Go.Maps
open Terms Tm

/-- what behind leaves. -/
def BhPost (w0 w : World) (B bs bl n : Nat) (va vr pv fv : Value) (m : Mo) (ps : List (List (Int × Int))) (l : List (Int × Int)) (ho : Option Addr) (hc : Nat) (code c : Int) (e : Ending) (w' : World) : Prop :=
  Sk bs bl w w' ∧ Hid (SvOk w0 w' B bs bl (n + 300000) va vr pv fv m ps l ho hc) ∧ ((wcode m code = 0 ∧ ∃ so sc, e = .returned (.tuple #[.slice so (behL m ps l code c).length sc, .int .i64 0]) ∧ Hid (SpO w' w.heap.size (.slice so (behL m ps l code c).length sc) (behL m ps l code c))) ∨ (wcode m code ≠ 0 ∧ e = .returned (.tuple #[.slice none 0 0, .int .i64 (wcode m code)])))

set_option maxHeartbeats 1600000 in
set_option maxRecDepth 20000 in
/-- of what is no state. -/
theorem behind_out (w0 w : World) (B bs bl n : Nat) (va vr pv fv : Value) (m : Mo) (ps : List (List (Int × Int))) (l : List (Int × Int)) (ho : Option Addr) (hc : Nat) (code c : Int) (hI : -9223372036854775808 ≤ code ∧ code ≤ 9223372036854775807) (hB : 0 < w0.heap.size) (hT : TabAt w0) (hV : TaskV w0 va vr pv fv m ps l) (hk : tkcode m ps l = 0) (hS : SvOk w0 w B bs bl n va vr pv fv m ps l ho hc) (hn : n + 300000 < 1000000000000) (hw : wcode m code ≠ 0) :
    Calls Tryz.prog 26 #[.pointer (some ⟨B, 0, none⟩), .agg #[.int .i64 code, .int .i64 c]] w (BhPost w0 w B bs bl n va vr pv fv m ps l ho hc code c) := by
  have hb1 : Below w.heap.size w (w.alloc (.cells #[.int .i64 code, .int .i64 c] 47)) := (Below.refl _ _).alloc (Nat.le_refl _) _
  have hst := stateOf_any w0 _ B bs bl n va vr pv fv m ps l ho hc code hI hB hT hV hk (hS.below hb1) (by omega)
  have hst2 : Calls Tryz.prog 49 #[.pointer (some ⟨B, 0, none⟩), .int .i64 code] (w.alloc (.cells #[.int .i64 code, .int .i64 c] 47)) fun e w' => e = .returned (.tuple #[.agg #[.slice none 0 0, .slice none 0 0, .slice none 0 0], .int .i64 (wcode m code)]) ∧ Hid (Sk bs bl w w' ∧ SvOk w0 w' B bs bl (n + 1) va vr pv fv m ps l ho hc) := hst.mono fun e w' ⟨h1, h2, h3⟩ => by
    rcases h3 with ⟨h4, _⟩ | ⟨_, h4⟩
    · exact absurd h4 hw
    · exact ⟨h4, (Sk.of hb1).trans h1, h2.out⟩
  unfold BhPost
  have HW : Hid (wcode m code ≠ 0) := hw
  have hw2 : ¬ wcode m code = 0 := hw
  generalize wcode m code = wc at *
  clear hst hS hT hV hk hw
  go_enter Tryz.func26, Tryz.ntmps26
  go_wp2_with (first | (go_at_call 49; refine hst2.mono ?_; rintro e w2 ⟨rfl, HR⟩))
  go_ret2
  have hb2 : ∀ o, Below w2.heap.size w2 (w2.alloc o) := fun o => (Below.refl _ _).alloc (Nat.le_refl _) o
  exact ⟨HR.out.1.trans (Sk.of (hb2 _)), (HR.out.2.below (hb2 _)).mono (by omega), .inr ⟨HW.out, rfl⟩⟩

set_option maxHeartbeats 6400000 in
set_option maxRecDepth 20000 in
/-- of a state. -/
theorem behind_in (w0 w : World) (B bs bl n : Nat) (va vr pv fv : Value) (m : Mo) (ps : List (List (Int × Int))) (l : List (Int × Int)) (ho : Option Addr) (hc : Nat) (code : Int) (c : Nat) (hI : -9223372036854775808 ≤ code ∧ code ≤ 9223372036854775807) (hB : 0 < w0.heap.size) (hT : TabAt w0) (hV : TaskV w0 va vr pv fv m ps l) (hk : tkcode m ps l = 0) (hS : SvOk w0 w B bs bl n va vr pv fv m ps l ho hc) (hn : n + 300000 < 1000000000000) (hcr : 0 ≤ code ∧ code < prodTo m.vars m.vars.length) (hcN : c < 2 ^ (aheadL l).length) :
    Calls Tryz.prog 26 #[.pointer (some ⟨B, 0, none⟩), .agg #[.int .i64 code, .int .i64 (c : Int)]] w (BhPost w0 w B bs bl n va vr pv fv m ps l ho hc code (c : Int)) := by
  obtain ⟨hp0, hl0⟩ := tk_zero hk
  obtain ⟨hm0, _⟩ := pcode_m hp0
  obtain ⟨_, _, _, _, h6⟩ := lcode_zero hl0
  have hw := wcode_yes hm0 hcr
  have hpr := ((mcode_vars hm0).prod (Nat.le_refl m.vars.length)).2
  have hN64 : 2 ^ (aheadL l).length ≤ 64 := Nat.pow_le_pow_right (show 0 < 2 by decide) h6
  have hnn := nextL_len hm0 hcr
  obtain ⟨W1, hW1⟩ : ∃ W1, W1 = w.alloc (.cells #[.int .i64 code, .int .i64 (c : Int)] 47) := ⟨_, rfl⟩
  have hb1 : Below w.heap.size w W1 := by rw [hW1]; exact (Below.refl _ _).alloc (Nat.le_refl _) _
  have hs1 : W1.cell? ⟨w.heap.size, 0, none⟩ = some (.int .i64 code) ∧ W1.cell? ⟨w.heap.size, 1, none⟩ = some (.int .i64 (c : Int)) := by rw [hW1]; constructor <;> simp [go_sem]
  have hS1 := hS.below hb1
  have hst := stateOf_any w0 W1 B bs bl n va vr pv fv m ps l ho hc code hI hB hT hV hk hS1 (by omega)
  have hst2 : Calls Tryz.prog 49 #[.pointer (some ⟨B, 0, none⟩), .int .i64 code] W1 fun e w' => ∃ lo lc no nc so sc, e = .returned (.tuple #[.agg #[.slice lo ps.length lc, .slice no (nextL m code).length nc, .slice so (2 ^ (aheadL l).length) sc], .int .i64 0]) ∧ Hid (Sk bs bl w w' ∧ SvOk w0 w' B bs bl (n + 1) va vr pv fv m ps l ho hc ∧ StOk w' m ps l code (.agg #[.slice lo ps.length lc, .slice no (nextL m code).length nc, .slice so (2 ^ (aheadL l).length) sc])) ∧ Hid (w'.cell? ⟨w.heap.size, 0, none⟩ = some (.int .i64 code) ∧ w'.cell? ⟨w.heap.size, 1, none⟩ = some (.int .i64 (c : Int))) := hst.mono fun e w' ⟨h1, h2, h3⟩ => by
    rcases h3 with ⟨_, lo, lc, no, nc, so, sc, h4, h5⟩ | ⟨h4, _⟩
    · exact ⟨lo, lc, no, nc, so, sc, h4, ⟨(Sk.of hb1).trans h1, h2.out, h5.out⟩, h1.cell hS1.two hs1.1, h1.cell hS1.two hs1.2⟩
    · exact absurd hw h4
  have HSt : Hid (∀ (w' : World) (n' : Nat) (c' : Int), n' < 1000000000000 → 0 ≤ c' ∧ c' < prodTo m.vars m.vars.length → SvOk w0 w' B bs bl n' va vr pv fv m ps l ho hc → Calls Tryz.prog 49 #[.pointer (some ⟨B, 0, none⟩), .int .i64 c'] w' fun e w'' => ∃ lo lc no nn2 nc so sc, e = .returned (.tuple #[.agg #[.slice lo ps.length lc, .slice no nn2 nc, .slice so (2 ^ (aheadL l).length) sc], .int .i64 0]) ∧ Hid (Sk bs bl w' w'' ∧ SvOk w0 w'' B bs bl (n' + 1) va vr pv fv m ps l ho hc ∧ StOk w'' m ps l c' (.agg #[.slice lo ps.length lc, .slice no nn2 nc, .slice so (2 ^ (aheadL l).length) sc]))) := fun w' n' c' hn' hc' hS' => (stateOf_any w0 w' B bs bl n' va vr pv fv m ps l ho hc c' (by omega) hB hT hV hk hS' hn').mono fun e w'' ⟨h1, h2, h3⟩ => by
    rcases h3 with ⟨_, lo, lc, no, nc, so, sc, h4, h5⟩ | ⟨h4, _⟩
    · exact ⟨lo, lc, no, _, nc, so, sc, h4, h1, h2.out, h5.out⟩
    · exact absurd (wcode_yes hm0 hc') h4
  have HFo : Hid (∀ (w' : World) (n' d : Nat) (c' : Int) (lo no so lo2 no2 so2 : Option Addr) (lc nn nc sc lc2 nn2 nc2 sc2 : Nat), n' < 1000000000000 → d < 2 ^ (aheadL l).length → 0 ≤ c' ∧ c' < prodTo m.vars m.vars.length → SvOk w0 w' B bs bl n' va vr pv fv m ps l ho hc → StOk w' m ps l code (.agg #[.slice lo ps.length lc, .slice no nn nc, .slice so (2 ^ (aheadL l).length) sc]) → StOk w' m ps l c' (.agg #[.slice lo2 ps.length lc2, .slice no2 nn2 nc2, .slice so2 (2 ^ (aheadL l).length) sc2]) → Calls Tryz.prog 50 #[.pointer (some ⟨B, 0, none⟩), .agg #[.slice lo ps.length lc, .slice no nn nc, .slice so (2 ^ (aheadL l).length) sc], .int .i64 (c : Int), .agg #[.slice lo2 ps.length lc2, .slice no2 nn2 nc2, .slice so2 (2 ^ (aheadL l).length) sc2], .int .i64 (d : Int)] w' fun e w'' => e = .returned (.tuple #[.bool (folR l (letL m ps code) (c : Int) (letL m ps c') (d : Int)), .int .i64 0]) ∧ Hid (Sk bs bl w' w'' ∧ SvOk w0 w'' B bs bl (n' + 1) va vr pv fv m ps l ho hc)) := fun w' n' d c' lo no so lo2 no2 so2 lc nn nc sc lc2 nn2 nc2 sc2 hn' hd hc' hS' hA hB' => by
    obtain ⟨_, _, _, _, _, _, e1, hx, _, _, _⟩ := hA
    obtain ⟨_, _, _, _, _, _, e2, hy, _, hz, _⟩ := hB'
    simp only [Value.agg.injEq, Array.mk.injEq, List.cons.injEq, Value.slice.injEq, and_true, true_and] at e1 e2
    obtain ⟨⟨rfl, rfl⟩, ⟨rfl, rfl, rfl⟩, rfl, rfl⟩ := e1
    obtain ⟨⟨rfl, rfl⟩, ⟨rfl, rfl, rfl⟩, rfl, rfl⟩ := e2
    exact (follows_any w0 w' B bs bl n' va vr pv fv m ps l ho hc (letL m ps code) (letL m ps c') c d _ _ _ _ _ _ _ _ _ _ _ _ _ _ hB hT hV hk hS' hn' hx hy hz (tk_let hk hcr).2 (tk_let hk hc').2 hcN hd).mono fun e w'' ⟨h1, h2, h3⟩ => ⟨h1, h2, h3.out⟩
  have HCl : Hid (∀ (w' : World) (n' : Nat), SvOk w0 w' B bs bl n' va vr pv fv m ps l ho hc → Calls Tryz.prog 25 #[.pointer (some ⟨B, 0, none⟩)] w' fun e w'' => e = .returned (.int .i64 ((2 ^ (aheadL l).length : Nat) : Int)) ∧ w'' = w') := fun w' n' h => claims_any B _ _ _ _ ho _ hc bs bl w' h6 h.box
  have HNx : Hid (∀ i, i < (nextL m code).length → 0 ≤ (nextL m code).getD i 0 ∧ (nextL m code).getD i 0 < prodTo m.vars m.vars.length) := fun i hi => nextL_st hm0 hcr (by rw [List.getD_eq_getElem?_getD, List.getElem?_eq_getElem hi]; exact List.getElem_mem hi)
  have HBt : Hid (∀ i, behTo m ps l code (c : Int) (i + 1) = behTo m ps l code (c : Int) i ++ foTo l (letL m ps code) (c : Int) (letL m ps ((nextL m code).getD i 0)) ((nextL m code).getD i 0) (2 ^ (aheadL l).length)) := fun _ => rfl
  have HB0 : Hid (behTo m ps l code (c : Int) 0 = []) := rfl
  have HBl : Hid (∀ i, (behTo m ps l code (c : Int) i).length ≤ i * 64) := behTo_len hN64 code (c : Int)
  have HInt : Hid (∀ (w' : World) (lo no so : Option Addr) (lc nc sc : Nat), StOk w' m ps l code (.agg #[.slice lo ps.length lc, .slice no (nextL m code).length nc, .slice so (2 ^ (aheadL l).length) sc]) → ∀ i, i < (nextL m code).length → ∃ b off, no = some ⟨b, off, none⟩ ∧ w'.cell? ⟨b, off + i, none⟩ = some (.int .i64 ((nextL m code).getD i 0))) := fun w' lo no so lc nc sc hA i hi => by
    obtain ⟨_, _, _, _, _, _, e1, _, hx, _, _⟩ := hA
    simp only [Value.agg.injEq, Array.mk.injEq, List.cons.injEq, Value.slice.injEq, and_true, true_and] at e1
    obtain ⟨⟨rfl, rfl⟩, ⟨rfl, rfl⟩, rfl, rfl⟩ := e1
    obtain ⟨ao, cap, e2, h1⟩ := hx
    injection e2 with e2 _ _
    subst e2
    obtain ⟨b, off, rfl, _, hat⟩ := h1 (by intro e; rw [e] at hi; simp at hi)
    exact ⟨b, off, rfl, hat i hi⟩
  have hw0 : w0.heap.size ≤ w.heap.size := hS.bel.size
  have hBlt : B < w.heap.size := hS.box.lt
  unfold BhPost behL
  have HW : Hid (wcode m code = 0) := hw
  generalize (nextL m code).length = nn at *
  generalize behTo m ps l code (c : Int) = bt at *
  generalize m.vars.length = vn at *
  generalize hpn : ps.length = pn at *
  generalize 2 ^ (aheadL l).length = N at *
  clear hst hS hS1 hT hV hk hp0 hl0 hm0 h6 hw hpn hs1 hcN
  subst hW1
  go_enter Tryz.func26, Tryz.ntmps26
  go_wp2_with (first | (go_at_call 49; refine hst2.mono ?_; rintro e w2 ⟨lo, lc, no, nc, so, sc, rfl, HR, HC⟩))
  obtain ⟨hsk2, hsv2, hso2⟩ := HR.out
  obtain ⟨hc0, hc1⟩ := HC.out
  have hb2 : Below w2.heap.size w2 (w2.alloc (.cells #[.slice lo pn lc, .slice no nn nc, .slice so N sc] 118)) := (Below.refl _ _).alloc (Nat.le_refl _) _
  have hbx := Bx3.new w2 (.slice lo pn lc) (.slice no nn nc) (.slice so N sc)
  have hzb : (w2.alloc (.cells #[.slice lo pn lc, .slice no nn nc, .slice so N sc] 118)).heap.size = w2.heap.size + 1 := by simp
  have hskb := hsk2.trans (Sk.of (bs := bs) (bl := bl) hb2)
  have hsvb := hsv2.below hb2
  have hsob := hso2.below hb2
  have hsz2 := hsk2.size
  have hcb1 : (w2.alloc (.cells #[.slice lo pn lc, .slice no nn nc, .slice so N sc] 118)).cell? ⟨w.heap.size, 1, none⟩ = some (.int .i64 (c : Int)) := (hb2.cell (p := ⟨w.heap.size, 1, none⟩) (World.block_lt_of_cell? _ _ hc1)).trans hc1
  generalize w2.alloc (.cells #[.slice lo pn lc, .slice no nn nc, .slice so N sc] 118) = Wb at *
  have htw := hsvb.two
  have HTw : Hid (TwoMaps Wb bs bl) := htw
  have HSob : Hid (∀ w', Sk bs bl Wb w' → StOk w' m ps l code (.agg #[.slice lo pn lc, .slice no nn nc, .slice so N sc])) := fun w' h => hsob.sk h htw
  have HBxb : Hid (∀ w', Sk bs bl Wb w' → (w'.cell? ⟨w2.heap.size, 0, none⟩ = some (.slice lo pn lc) ∧ w'.cell? ⟨w2.heap.size, 1, none⟩ = some (.slice no nn nc) ∧ w'.cell? ⟨w2.heap.size, 2, none⟩ = some (.slice so N sc)) ∧ w'.cell? ⟨w.heap.size, 1, none⟩ = some (.int .i64 (c : Int))) := fun w' h => ⟨(hbx.sk h htw).1, h.cell htw hcb1⟩
  have HSvb : Hid (SvOk w0 Wb B bs bl (n + 1) va vr pv fv m ps l ho hc) := hsvb
  have HSkb : Hid (Sk bs bl w Wb) := hskb
  clear hst2 HR HC hsk2 hsv2 hso2 hc0 hc1 hb2 hbx hskb hsvb hsob hcb1 htw
  go_loopw [8, 29] (fun u i wr => ∃ k : Nat, k ≤ nn ∧ i = .int .i64 k ∧ (∃ po pk pc, u = .slice po pk pc ∧ pk ≤ k * 64 ∧ Hid ((bt k).length = pk ∧ SpO wr Wb.heap.size (.slice po pk pc) (bt k))) ∧ Hid (Sk bs bl Wb wr ∧ SvOk w0 wr B bs bl (n + 1 + k * 65) va vr pv fv m ps l ho hc)) (fun _ i _ => nn - (intOf i).toNat)
  case atStart => exact ⟨0, Nat.zero_le _, rfl, ⟨none, 0, 0, rfl, Nat.zero_le _, by rw [HB0.out]; rfl, by rw [HB0.out]; exact SpO.nil _ _⟩, Sk.refl _ _ _, HSvb.out⟩
  case round =>
    obtain ⟨k, hkn, rfl, ⟨po, pk, pc, rfl, hpk, HSp⟩, HSS⟩ := hrel
    by_cases hlt : k < nn
    · obtain ⟨hskr, hsvr⟩ := HSS.out
      obtain ⟨nb, noff, rfl, hcell⟩ := HInt.out wr lo no so lc nc sc (HSob.out wr hskr) k hlt
      have hin := HNx.out k hlt
      have hst := HSt.out wr (n + 1 + k * 65) _ (by omega) hin hsvr
      have hki : (k : Int) < (nn : Int) := by omega
      have HBk := (show Hid _ from HBt.out k)
      have HSpk : Hid (∀ w', Sk bs bl wr w' → SpO w' Wb.heap.size (.slice po pk pc) (bt k)) := fun w' h => HSp.out.2.sk h hsvr.two
      have HSl : Hid ((bt k).length = pk) := HSp.out.1
      have HFk : Hid (∀ (w' : World) (n' d : Nat) (lo2 no2 so2 : Option Addr) (lc2 nn2 nc2 sc2 : Nat), n' < 1000000000000 → d < N → SvOk w0 w' B bs bl n' va vr pv fv m ps l ho hc → Sk bs bl Wb w' → StOk w' m ps l ((nextL m code).getD k 0) (.agg #[.slice lo2 pn lc2, .slice no2 nn2 nc2, .slice so2 N sc2]) → Calls Tryz.prog 50 #[.pointer (some ⟨B, 0, none⟩), .agg #[.slice lo pn lc, .slice (some ⟨nb, noff, none⟩) nn nc, .slice so N sc], .int .i64 (c : Int), .agg #[.slice lo2 pn lc2, .slice no2 nn2 nc2, .slice so2 N sc2], .int .i64 (d : Int)] w' fun e w'' => e = .returned (.tuple #[.bool (folR l (letL m ps code) (c : Int) (letL m ps ((nextL m code).getD k 0)) (d : Int)), .int .i64 0]) ∧ Hid (Sk bs bl w' w'' ∧ SvOk w0 w'' B bs bl (n' + 1) va vr pv fv m ps l ho hc)) := fun w' n' d lo2 no2 so2 lc2 nn2 nc2 sc2 h1 h2 h3 h4 h5 => HFo.out w' n' d _ lo _ so lo2 no2 so2 lc nn nc sc lc2 nn2 nc2 sc2 h1 h2 hin h3 (HSob.out w' h4) h5
      have HF0 : Hid (foTo l (letL m ps code) (c : Int) (letL m ps ((nextL m code).getD k 0)) ((nextL m code).getD k 0) 0 = []) := rfl
      have HFS : Hid (∀ d : Nat, foTo l (letL m ps code) (c : Int) (letL m ps ((nextL m code).getD k 0)) ((nextL m code).getD k 0) (d + 1) = if folR l (letL m ps code) (c : Int) (letL m ps ((nextL m code).getD k 0)) (d : Int) = true then foTo l (letL m ps code) (c : Int) (letL m ps ((nextL m code).getD k 0)) ((nextL m code).getD k 0) d ++ [((nextL m code).getD k 0, (d : Int))] else foTo l (letL m ps code) (c : Int) (letL m ps ((nextL m code).getD k 0)) ((nextL m code).getD k 0) d) := fun _ => rfl
      have HFl : Hid (∀ d, (foTo l (letL m ps code) (c : Int) (letL m ps ((nextL m code).getD k 0)) ((nextL m code).getD k 0) d).length ≤ d) := foTo_len _ _ _ _ _
      have HStk : Hid (∀ (w' w'' : World) (v : Value), StOk w' m ps l ((nextL m code).getD k 0) v → TwoMaps w' bs bl → Sk bs bl w' w'' → StOk w'' m ps l ((nextL m code).getD k 0) v) := fun w' w'' v h1 h2 h3 => h1.sk h3 h2
      have HStg : Hid (∀ (w' w'' : World) (v : Value) (own : Option Nat), StOk w' m ps l ((nextL m code).getD k 0) v → w'.grownBy w'' own → (∀ g, own = some g → ∃ cs fr, w'.heap[g]? = some (.cells cs 47 fr)) → StOk w'' m ps l ((nextL m code).getD k 0) v) := fun w' w'' v own h1 h2 h3 => h1.grown h2 h3
      have HStb : Hid (∀ (w' : World) (v : Value) (o : Obj), StOk w' m ps l ((nextL m code).getD k 0) v → StOk (w'.alloc o) m ps l ((nextL m code).getD k 0) v) := fun w' v o h1 => h1.below ((Below.refl _ _).alloc (Nat.le_refl _) o)
      generalize foTo l (letL m ps code) (c : Int) (letL m ps ((nextL m code).getD k 0)) ((nextL m code).getD k 0) = ft at *
      generalize hfr : (fun d : Nat => folR l (letL m ps code) (c : Int) (letL m ps ((nextL m code).getD k 0)) (d : Int)) = fr at *
      have HFr : Hid (∀ d : Nat, folR l (letL m ps code) (c : Int) (letL m ps ((nextL m code).getD k 0)) (d : Int) = fr d) := fun d => by rw [← hfr]
      generalize hstk : (fun (w' : World) (v : Value) => StOk w' m ps l ((nextL m code).getD k 0) v) = SK at *
      have HSK : Hid (∀ (w' : World) (v : Value), StOk w' m ps l ((nextL m code).getD k 0) v ↔ SK w' v) := fun w' v => by rw [← hstk]
      clear hfr hstk
      have hst' : Calls Tryz.prog 49 #[.pointer (some ⟨B, 0, none⟩), .int .i64 ((nextL m code).getD k 0)] wr fun e w'' => ∃ lo lc no nn2 nc so sc, e = .returned (.tuple #[.agg #[.slice lo pn lc, .slice no nn2 nc, .slice so N sc], .int .i64 0]) ∧ Hid (Sk bs bl wr w'' ∧ SvOk w0 w'' B bs bl (n + 1 + k * 65 + 1) va vr pv fv m ps l ho hc ∧ SK w'' (.agg #[.slice lo pn lc, .slice no nn2 nc, .slice so N sc])) := hst.mono fun e w'' ⟨a1, a2, a3, a4, a5, a6, a7, h1, h2⟩ => ⟨a1, a2, a3, a4, a5, a6, a7, h1, h2.out.1, h2.out.2.1, (HSK.out _ _).1 h2.out.2.2⟩
      clear hst HInt HSt HNx HBt HB0
      generalize (nextL m code).getD k 0 = cd at *
      clear hsvr HSp
      go_wp2_with (first | (go_at_call 49; refine hst'.mono ?_; rintro e w3 ⟨lo2, lc2, no2, nn2, nc2, so2, sc2, rfl, HR3⟩; have hcl := HCl.out _ _ (HR3.out.2.1.below ((Below.refl w3.heap.size w3).alloc (Nat.le_refl _) (.cells #[.slice lo2 pn lc2, .slice no2 nn2 nc2, .slice so2 N sc2] 118)))) | (go_at_call 25; refine hcl.mono ?_; rintro e w4 ⟨rfl, hw4⟩))
      have hbA : Below w3.heap.size w3 (w3.alloc (.cells #[.slice lo2 pn lc2, .slice no2 nn2 nc2, .slice so2 N sc2] 118)) := (Below.refl _ _).alloc (Nat.le_refl _) _
      have HIn : Hid (SpO (w3.alloc (.cells #[.slice lo2 pn lc2, .slice no2 nn2 nc2, .slice so2 N sc2] 118)) Wb.heap.size (.slice po pk pc) (bt k) ∧ Sk bs bl Wb (w3.alloc (.cells #[.slice lo2 pn lc2, .slice no2 nn2 nc2, .slice so2 N sc2] 118)) ∧ SvOk w0 (w3.alloc (.cells #[.slice lo2 pn lc2, .slice no2 nn2 nc2, .slice so2 N sc2] 118)) B bs bl (n + 1 + k * 65 + 1) va vr pv fv m ps l ho hc ∧ SK (w3.alloc (.cells #[.slice lo2 pn lc2, .slice no2 nn2 nc2, .slice so2 N sc2] 118)) (.agg #[.slice lo2 pn lc2, .slice no2 nn2 nc2, .slice so2 N sc2]) ∧ Bx3 (w3.alloc (.cells #[.slice lo2 pn lc2, .slice no2 nn2 nc2, .slice so2 N sc2] 118)) w3.heap.size (.slice lo2 pn lc2) (.slice no2 nn2 nc2) (.slice so2 N sc2)) :=
        ⟨(HSpk.out w3 HR3.out.1).later hbA (Nat.le_refl _), (hskr.trans HR3.out.1).trans (Sk.of hbA), HR3.out.2.1.below hbA, (HSK.out _ _).1 (HStb.out _ _ _ ((HSK.out _ _).2 HR3.out.2.2)), Bx3.new _ _ _ _⟩
      clear HR3 HSpk hst' hcl hbA HStb
      generalize w3.alloc (.cells #[.slice lo2 pn lc2, .slice no2 nn2 nc2, .slice so2 N sc2] 118) = Wc at *
      have HSKk : Hid (∀ (w' w'' : World) (v : Value), SK w' v → TwoMaps w' bs bl → Sk bs bl w' w'' → SK w'' v) := fun w' w'' v h1 h2 h3 => (HSK.out _ _).1 (HStk.out w' w'' v ((HSK.out _ _).2 h1) h2 h3)
      have HSKg : Hid (∀ (w' w'' : World) (v : Value) (own : Option Nat), SK w' v → w'.grownBy w'' own → (∀ g, own = some g → ∃ cs fr, w'.heap[g]? = some (.cells cs 47 fr)) → SK w'' v) := fun w' w'' v own h1 h2 h3 => (HSK.out _ _).1 (HStg.out w' w'' v own ((HSK.out _ _).2 h1) h2 h3)
      have HSKa : Hid (∀ (w' : World) (v : Value) (o : Obj), SK w' v → SK (w'.alloc o) v) := fun w' v o h1 => HSKg.out w' (w'.alloc o) v none h1 (World.grownBy_alloc w' o none) (fun g e => by simp at e)
      have HFk2 : Hid (∀ (w' : World) (n' d : Nat), n' < 1000000000000 → d < N → SvOk w0 w' B bs bl n' va vr pv fv m ps l ho hc → Sk bs bl Wb w' → SK w' (.agg #[.slice lo2 pn lc2, .slice no2 nn2 nc2, .slice so2 N sc2]) → Calls Tryz.prog 50 #[.pointer (some ⟨B, 0, none⟩), .agg #[.slice lo pn lc, .slice (some ⟨nb, noff, none⟩) nn nc, .slice so N sc], .int .i64 (c : Int), .agg #[.slice lo2 pn lc2, .slice no2 nn2 nc2, .slice so2 N sc2], .int .i64 (d : Int)] w' fun e w'' => e = .returned (.tuple #[.bool (fr d), .int .i64 0]) ∧ Hid (Sk bs bl w' w'' ∧ SvOk w0 w'' B bs bl (n' + 1) va vr pv fv m ps l ho hc)) := fun w' n' d h1 h2 h3 h4 h5 => by
        have := HFk.out w' n' d lo2 no2 so2 lc2 nn2 nc2 sc2 h1 h2 h3 h4 ((HSK.out _ _).2 h5)
        rw [HFr.out] at this
        exact this
      have HFS2 : Hid (∀ d : Nat, ft (d + 1) = if fr d = true then ft d ++ [(cd, (d : Int))] else ft d) := fun d => by
        have := HFS.out d
        rw [HFr.out] at this
        exact this
      clear HFk HFS HFr HSK HStk HStg HFo
      go_loopw [8, 44] (fun u i wr2 => ∃ d : Nat, d ≤ N ∧ i = .int .i64 d ∧ (∃ po pk2 pc, u = .slice po pk2 pc ∧ pk2 ≤ pk + d ∧ Hid ((bt k ++ ft d).length = pk2 ∧ SpO wr2 Wb.heap.size (.slice po pk2 pc) (bt k ++ ft d))) ∧ Hid (Sk bs bl Wb wr2 ∧ SvOk w0 wr2 B bs bl (n + 1 + k * 65 + 1 + d) va vr pv fv m ps l ho hc ∧ SK wr2 (.agg #[.slice lo2 pn lc2, .slice no2 nn2 nc2, .slice so2 N sc2]) ∧ Bx3 wr2 w3.heap.size (.slice lo2 pn lc2) (.slice no2 nn2 nc2) (.slice so2 N sc2))) (fun _ i _ => N - (intOf i).toNat)
      case atStart => exact ⟨0, Nat.zero_le _, rfl, ⟨po, pk, pc, rfl, Nat.le_refl _, by rw [HF0.out, List.append_nil]; exact HSl.out, by rw [HF0.out, List.append_nil]; exact HIn.out.1⟩, HIn.out.2⟩
      case round =>
        obtain ⟨d, hdN, rfl, ⟨po2, pk2, pc2, rfl, hpk2, HSp2⟩, HS2⟩ := hrel
        by_cases hd : d < N
        · obtain ⟨hsk2, hsv2, hSK2, hbx2⟩ := HS2.out
          have hfo := HFk2.out _ (n + 1 + k * 65 + 1 + d) d (by omega) hd hsv2 hsk2 hSK2
          obtain ⟨⟨x0, x1, x2⟩, x3⟩ := HBxb.out _ hsk2
          obtain ⟨⟨z0, z1, z2⟩, _⟩ := id hbx2
          have htw2 := hsv2.two
          have HE := (show Hid _ from HFS2.out d)
          have HNx2 : Hid (∀ w', Sk bs bl wr w' → SpO w' Wb.heap.size (.slice po2 pk2 pc2) (bt k ++ ft d) ∧ Sk bs bl Wb w' ∧ SK w' (.agg #[.slice lo2 pn lc2, .slice no2 nn2 nc2, .slice so2 N sc2]) ∧ Bx3 w' w3.heap.size (.slice lo2 pn lc2) (.slice no2 nn2 nc2) (.slice so2 N sc2)) := fun w' h => ⟨HSp2.out.2.sk h htw2, hsk2.trans h, HSKk.out _ _ _ hSK2 htw2 h, hbx2.sk h htw2⟩
          have HSl2 : Hid ((bt k ++ ft d).length = pk2) := HSp2.out.1
          clear hskr
          cases hfd : fr d with
          | false =>
            rw [hfd] at hfo HE
            have HE2 : Hid (ft (d + 1) = ft d) := by have := HE.out; rw [if_neg (by simp)] at this; exact this
            clear HE hsv2 hSK2 hbx2 HSp2 HS2 hfd
            go_wp2_with (first | (go_at_call 50; refine hfo.mono ?_; rintro e w5 ⟨rfl, HR5⟩))
            obtain ⟨q1, q2, q3, q4⟩ := HNx2.out _ HR5.out.1
            have HQ := (show Hid (SpO w5 Wb.heap.size (.slice po2 pk2 pc2) (bt k ++ ft d) ∧ Sk bs bl Wb w5 ∧ SvOk w0 w5 B bs bl (n + 1 + k * 65 + 1 + d + 1) va vr pv fv m ps l ho hc ∧ SK w5 (.agg #[.slice lo2 pn lc2, .slice no2 nn2 nc2, .slice so2 N sc2]) ∧ Bx3 w5 w3.heap.size (.slice lo2 pn lc2) (.slice no2 nn2 nc2) (.slice so2 N sc2)) from ⟨q1, q2, HR5.out.2, q3, q4⟩)
            clear q1 q2 q3 q4 HR5
            go_roundw
            case rel => exact ⟨d + 1, by omega, by go_num, ⟨po2, pk2, pc2, rfl, by omega, by rw [HE2.out]; exact HSl2.out, by rw [HE2.out]; exact HQ.out.1⟩, HQ.out.2⟩
            case measure => simp [intOf]; omega
          | true =>
            rw [hfd] at hfo HE
            have HE2 : Hid (ft (d + 1) = ft d ++ [(cd, (d : Int))]) := by have := HE.out; rw [if_pos rfl] at this; exact this
            clear HE hsv2 hSK2 hbx2 HSp2 HS2 hfd
            go_wp2_with (first | (go_at_call 50; refine hfo.mono ?_; rintro e w5 ⟨rfl, HR5⟩; obtain ⟨q1, q2, q3, q4⟩ := HNx2.out _ HR5.out.1; have HQ := (show Hid (SpO w5 Wb.heap.size (.slice po2 pk2 pc2) (bt k ++ ft d) ∧ Sk bs bl Wb w5 ∧ SvOk w0 w5 B bs bl (n + 1 + k * 65 + 1 + d + 1) va vr pv fv m ps l ho hc ∧ SK w5 (.agg #[.slice lo2 pn lc2, .slice no2 nn2 nc2, .slice so2 N sc2]) ∧ Bx3 w5 w3.heap.size (.slice lo2 pn lc2) (.slice no2 nn2 nc2) (.slice so2 N sc2)) from ⟨q1, q2, HR5.out.2, q3, q4⟩); clear q1 q2 q3 q4 HR5; have hsp5 := HQ.out.1; have hsz5 := HQ.out.2.1.size) | (at_builtin; refine push_sp cd (d : Int) rfl _ _ rfl Wb.heap.size pk2 pc2 po2 (bt k ++ ft d) HSl2.out rfl hsp5 rfl (by omega) hsz5 ?_; intro vo6 cap6 w6 ho6 hb6 hg6))
            have hown := hsp5.own (.cells #[.int .i64 cd, .int .i64 (d : Int)] 47)
            have HQ6 : Hid (SpO w6 Wb.heap.size (.slice vo6 (pk2 + 1) cap6) (bt k ++ ft d ++ [(cd, (d : Int))]) ∧ Sk bs bl Wb w6 ∧ SvOk w0 w6 B bs bl (n + 1 + k * 65 + 1 + d + 1) va vr pv fv m ps l ho hc ∧ SK w6 (.agg #[.slice lo2 pn lc2, .slice no2 nn2 nc2, .slice so2 N sc2]) ∧ Bx3 w6 w3.heap.size (.slice lo2 pn lc2) (.slice no2 nn2 nc2) (.slice so2 N sc2)) := by
              have ha : Below w5.heap.size w5 (w5.alloc (.cells #[.int .i64 cd, .int .i64 (d : Int)] 47)) := (Below.refl _ _).alloc (Nat.le_refl _) _
              refine ⟨ho6, HQ.out.2.1.after hb6, (HQ.out.2.2.1.below ha).spots hg6 (fun g e => ?_), HSKg.out _ _ _ _ (HSKa.out _ _ _ HQ.out.2.2.2.1) hg6 (fun g e => (hown g e).2), (HQ.out.2.2.2.2.below ha).grown hg6 (fun g e => (hown g e).2)⟩
              obtain ⟨h1, h2⟩ := hown g e
              have := HSkb.out.size
              exact ⟨by omega, by omega, h2⟩
            clear hown ho6 hb6 hg6 hsp5 HQ
            go_wp2_with fail
            go_roundw
            case rel => exact ⟨d + 1, by omega, by go_num, ⟨vo6, pk2 + 1, cap6, rfl, by omega, by rw [HE2.out, ← List.append_assoc, List.length_append, HSl2.out]; rfl, by rw [HE2.out, ← List.append_assoc]; exact HQ6.out.1⟩, HQ6.out.2⟩
            case measure => simp [intOf]; omega
        · obtain rfl : d = N := by omega
          have HSl2 : Hid ((bt (k + 1)).length = pk2 ∧ SpO wr Wb.heap.size (.slice po2 pk2 pc2) (bt (k + 1))) := by rw [HBk.out]; exact HSp2.out
          have HS3 : Hid (Sk bs bl Wb wr ∧ SvOk w0 wr B bs bl (n + 1 + (k + 1) * 65) va vr pv fv m ps l ho hc) := ⟨HS2.out.1, HS2.out.2.1.mono (by omega)⟩
          clear HSp2 HS2
          go_wp2_with fail
          go_roundw
          case rel => exact ⟨k + 1, by omega, by go_num, ⟨po2, pk2, pc2, rfl, by omega, HSl2.out.1, HSl2.out.2⟩, HS3⟩
          case measure => simp [intOf]; omega
    · obtain rfl : k = nn := by omega
      have HSl : Hid ((bt k).length = pk) := HSp.out.1
      have HSpp : Hid (SpO wr Wb.heap.size (.slice po pk pc) (bt k)) := HSp.out.2
      have hwb : w.heap.size ≤ Wb.heap.size := HSkb.out.size
      clear HSp
      go_wp2_with fail
      go_ret2
      exact ⟨HSkb.out.trans HSS.out.1, HSS.out.2.mono (by omega), .inl ⟨HW.out, po, pc, by rw [HSl.out]; rfl, by rw [HSl.out]; exact owns_mono HSpp.out hwb⟩⟩
end Go.Proofs.YtafbnmiipfkohaaGreatDoor

/-
  The contract of product.Behind.
-/
namespace Go.Proofs.YtafbnmiipfkohaaGreatDoor
open Go.ChangeShapes Go.WideShapes Go.ChangeAt Go.RowKit Go.Deep Go.Maps
open Terms Tm

set_option maxRecDepth 20000 in
theorem belowD (w : World) (q : Nat) : Below w.heap.size w (w.drewN q) := ⟨rfl, rfl, rfl, Nat.le_refl _, fun _ _ => rfl⟩
set_option maxRecDepth 20000 in
/-- a survey that was just made. -/
theorem SvOk.made {w0 w w' : World} {n : Nat} {va vr pv fv : Value} {m : Mo} {ps : List (List (Int × Int))} {l : List (Int × Int)} {ho : Option Addr} {hc : Nat} (hb : Below w0.heap.size w0 w) (hb2 : Below w.heap.size w w') (hn : w.heap.size ≤ n) (hs : SurvAt w' (n + 2) va vr pv fv (.slice ho (aheadL l).length hc) n (n + 1))
    (ho' : w'.ownsRow w.heap.size 3 1 (.slice ho (aheadL l).length hc) (aheadL l).length (ivals (aheadL l))) (h1 : w'.heap[n]? = some (.map #[] 0)) (h2 : w'.heap[n + 1]? = some (.map #[] 0)) : SvOk w0 w' (n + 2) n (n + 1) 0 va vr pv fv m ps l ho hc := by
  have := hb.size
  exact ⟨hs, hb.trans (hb2.mono hb.size), by omega, by omega, by omega, intsV_of_owns ho', RowTy.owns ho', ⟨_, MapIs.new _ h1, fun kl v h => by simp at h⟩, ⟨_, MapIs.new _ h2, fun kl v h => by simp at h⟩⟩

/-- what Behind answers. -/
noncomputable def bhC (m : Mo) (ps : List (List (Int × Int))) (l : List (Int × Int)) (code c : Int) : Int := by classical exact if tkcode m ps l = 0 then (if 0 ≤ c ∧ c < ((2 ^ (aheadL l).length : Nat) : Int) then wcode m code else 9) else tkcode m ps l
noncomputable def bhL (m : Mo) (ps : List (List (Int × Int))) (l : List (Int × Int)) (code c : Int) : List (Int × Int) := by classical exact if bhC m ps l code c = 0 then behL m ps l code c else []
set_option maxRecDepth 20000 in
theorem bhC_bad {m : Mo} {ps : List (List (Int × Int))} {l : List (Int × Int)} {code c : Int} (h : tkcode m ps l ≠ 0) : bhC m ps l code c = tkcode m ps l := by unfold bhC; rw [if_neg h]
set_option maxRecDepth 20000 in
theorem bhC_no {m : Mo} {ps : List (List (Int × Int))} {l : List (Int × Int)} {code c : Int} (h : tkcode m ps l = 0) (h2 : ¬ (0 ≤ c ∧ c < ((2 ^ (aheadL l).length : Nat) : Int))) : bhC m ps l code c = 9 := by unfold bhC; rw [if_pos h, if_neg h2]
set_option maxRecDepth 20000 in
theorem bhC_ok {m : Mo} {ps : List (List (Int × Int))} {l : List (Int × Int)} {code c : Int} (h : tkcode m ps l = 0) (h2 : 0 ≤ c ∧ c < ((2 ^ (aheadL l).length : Nat) : Int)) : bhC m ps l code c = wcode m code := by unfold bhC; rw [if_pos h, if_pos h2]
set_option maxRecDepth 20000 in
theorem bhL_bad {m : Mo} {ps : List (List (Int × Int))} {l : List (Int × Int)} {code c : Int} (h : bhC m ps l code c ≠ 0) : bhL m ps l code c = [] := by unfold bhL; rw [if_neg h]
set_option maxRecDepth 20000 in
theorem bhL_ok {m : Mo} {ps : List (List (Int × Int))} {l : List (Int × Int)} {code c : Int} (h : bhC m ps l code c = 0) : bhL m ps l code c = behL m ps l code c := by unfold bhL; rw [if_pos h]
def BdPost (w : World) (m : Mo) (ps : List (List (Int × Int))) (l : List (Int × Int)) (code c : Int) (e : Ending) (w' : World) : Prop := ∃ so sc, e = .returned (.tuple #[.slice so (bhL m ps l code c).length sc, .int .i64 (bhC m ps l code c)]) ∧ Below w.heap.size w w' ∧ Hid (SpO w' w.heap.size (.slice so (bhL m ps l code c).length sc) (bhL m ps l code c))

set_option maxHeartbeats 1600000 in
set_option maxRecDepth 20000 in
theorem pbehind_bad (va vr pv fv : Value) (m : Mo) (ps : List (List (Int × Int))) (l : List (Int × Int)) (code c : Int) (w : World) (hB : 0 < w.heap.size) (hT : TabAt w) (hV : TaskV w va vr pv fv m ps l) (hk : tkcode m ps l ≠ 0) :
    Calls Tryz.prog 10 #[.agg #[va, vr, pv, fv], .agg #[.int .i64 code, .int .i64 c]] w (BdPost w m ps l code c) := by
  unfold BdPost
  rw [bhL_bad (by rw [bhC_bad hk]; exact hk), bhC_bad hk]
  obtain ⟨ao, ac, rfl⟩ := hV.mo.1.shape
  obtain ⟨ro, rc, rfl⟩ := hV.mo.2.shape
  obtain ⟨po, pc, rfl⟩ := hV.ps.shape
  obtain ⟨fo, fc, rfl, _⟩ := id hV.fo
  have hA : ∀ o o', Below w.heap.size w ((w.alloc o).alloc o') := fun o o' => ((Below.refl _ _).alloc (Nat.le_refl _) o).alloc (by simp) o'
  have hsv := surveyOf_bad _ _ _ _ m ps l _ (Nat.lt_of_lt_of_le hB (hA (.cells #[.slice ao m.vars.length ac, .slice ro m.rules.length rc, .slice po ps.length pc, .slice fo l.length fc] 34) (.cells #[.int .i64 code, .int .i64 c] 47)).size) (hT.below (hA _ _) hB) (hV.below (hA _ _)) hk
  generalize tkcode m ps l = tc at *
  generalize m.vars.length = vn at *
  generalize m.rules.length = rn at *
  generalize ps.length = pn at *
  generalize l.length = fn at *
  clear hV hT
  go_enter Tryz.func10, Tryz.ntmps10
  go_wp2_with (first | (go_at_call 24; refine hsv.mono ?_; rintro e w1 ⟨rfl, hb1⟩; have hbw := (hA _ _).trans (hb1.mono (hA _ _).size)))
  go_ret2
  exact ⟨none, 0, rfl, hbw, SpO.nil _ _⟩

set_option maxHeartbeats 1600000 in
set_option maxRecDepth 20000 in
theorem pbehind_no (va vr pv fv : Value) (m : Mo) (ps : List (List (Int × Int))) (l : List (Int × Int)) (code c : Int) (w : World) (hB : 0 < w.heap.size) (hT : TabAt w) (hV : TaskV w va vr pv fv m ps l) (hk : tkcode m ps l = 0) (hno : ¬ (0 ≤ c ∧ c < ((2 ^ (aheadL l).length : Nat) : Int))) :
    Calls Tryz.prog 10 #[.agg #[va, vr, pv, fv], .agg #[.int .i64 code, .int .i64 c]] w (BdPost w m ps l code c) := by
  unfold BdPost
  rw [bhL_bad (by rw [bhC_no hk hno]; decide), bhC_no hk hno]
  have h6 := (lcode_zero (tk_zero hk).2).2.2.2.2
  obtain ⟨ao, ac, rfl⟩ := hV.mo.1.shape
  obtain ⟨ro, rc, rfl⟩ := hV.mo.2.shape
  obtain ⟨po, pc, rfl⟩ := hV.ps.shape
  obtain ⟨fo, fc, rfl, _⟩ := id hV.fo
  have hA : ∀ o o', Below w.heap.size w ((w.alloc o).alloc o') := fun o o' => ((Below.refl _ _).alloc (Nat.le_refl _) o).alloc (by simp) o'
  have hsv := surveyOf_ok _ _ _ _ m ps l _ (Nat.lt_of_lt_of_le hB (hA (.cells #[.slice ao m.vars.length ac, .slice ro m.rules.length rc, .slice po ps.length pc, .slice fo l.length fc] 34) (.cells #[.int .i64 code, .int .i64 c] 47)).size) (hT.below (hA _ _) hB) (hV.below (hA _ _)) hk
  have HCl : Hid (∀ (w' : World) (B bs bl : Nat) (ho : Option Addr) (hc : Nat), SurvAt w' B (.slice ao m.vars.length ac) (.slice ro m.rules.length rc) (.slice po ps.length pc) (.slice fo l.length fc) (.slice ho (aheadL l).length hc) bs bl → ∀ q, Calls Tryz.prog 25 #[.pointer (some ⟨B, 0, none⟩)] (w'.drewN q) fun e w'' => e = .returned (.int .i64 ((2 ^ (aheadL l).length : Nat) : Int)) ∧ w'' = w'.drewN q) := fun w' B bs bl ho hc h q => claims_any B _ _ _ _ ho _ hc bs bl (w'.drewN q) h6 (h.later (belowD _ _))
  have HSp : Hid (∀ (o o' : Obj) (w' : World), o' = .cells #[.int .i64 code, .int .i64 c] 47 → Below ((w.alloc o).alloc o').heap.size ((w.alloc o).alloc o') w' → w'.cell? ⟨w.heap.size + 1, 0, none⟩ = some (.int .i64 code) ∧ w'.cell? ⟨w.heap.size + 1, 1, none⟩ = some (.int .i64 c)) := fun o o' w' e h => by
    subst e
    exact ⟨(h.cell (p := ⟨w.heap.size + 1, 0, none⟩) (by simp)).trans (by simp [go_sem]), (h.cell (p := ⟨w.heap.size + 1, 1, none⟩) (by simp)).trans (by simp [go_sem])⟩
  unfold SurvPost at hsv
  generalize 2 ^ (aheadL l).length = N at *
  generalize (aheadL l).length = an at *
  generalize m.vars.length = vn at *
  generalize m.rules.length = rn at *
  generalize ps.length = pn at *
  generalize l.length = fn at *
  clear hV hT hk
  go_enter Tryz.func10, Tryz.ntmps10
  go_wp2_with (first | (go_at_call 24; refine hsv.mono ?_; rintro e w1 ⟨n, ho, hc, rfl, hb1, _, _, HSv, _, _⟩; have hbw := (hA _ _).trans (hb1.mono (hA _ _).size); have hcl := HCl.out w1 _ _ _ _ _ HSv.out; obtain ⟨s0, s1⟩ := HSp.out _ _ w1 rfl hb1))
  by_cases h0 : c < 0
  · have h0d : decide (c < 0) = true := decide_eq_true h0
    go_quiet (first | (go_at_call 25; exact Calls.quiet_of_same (hcl _)))
    go_wp2_with fail
    go_ret2
    exact ⟨none, 0, rfl, ⟨hbw.os, hbw.tape, hbw.output, hbw.size, hbw.block⟩, SpO.nil _ _⟩
  · have h0d : decide (c < 0) = false := decide_eq_false h0
    have h1 : (N : Int) ≤ c := by omega
    have h1d : decide ((N : Int) ≤ c) = true := decide_eq_true h1
    go_quiet (first | (go_at_call 25; exact Calls.quiet_of_same (hcl _)))
    go_wp2_with fail
    go_ret2
    exact ⟨none, 0, rfl, ⟨hbw.os, hbw.tape, hbw.output, hbw.size, hbw.block⟩, SpO.nil _ _⟩

set_option maxHeartbeats 1600000 in
set_option maxRecDepth 20000 in
theorem pbehind_ok (va vr pv fv : Value) (m : Mo) (ps : List (List (Int × Int))) (l : List (Int × Int)) (code : Int) (c : Nat) (hI : -9223372036854775808 ≤ code ∧ code ≤ 9223372036854775807) (w : World) (hB : 0 < w.heap.size) (hT : TabAt w) (hV : TaskV w va vr pv fv m ps l) (hk : tkcode m ps l = 0) (hcN : c < 2 ^ (aheadL l).length) :
    Calls Tryz.prog 10 #[.agg #[va, vr, pv, fv], .agg #[.int .i64 code, .int .i64 (c : Int)]] w (BdPost w m ps l code (c : Int)) := by
  unfold BdPost
  have hbc := bhC_ok (code := code) hk (c := (c : Int)) ⟨by omega, by omega⟩
  have h6 := (lcode_zero (tk_zero hk).2).2.2.2.2
  have hm0 := (pcode_m (tk_zero hk).1).1
  obtain ⟨ao, ac, rfl⟩ := hV.mo.1.shape
  obtain ⟨ro, rc, rfl⟩ := hV.mo.2.shape
  obtain ⟨po, pc, rfl⟩ := hV.ps.shape
  obtain ⟨fo, fc, rfl, _⟩ := id hV.fo
  have hA : ∀ o o', Below w.heap.size w ((w.alloc o).alloc o') := fun o o' => ((Below.refl _ _).alloc (Nat.le_refl _) o).alloc (by simp) o'
  have hsv := surveyOf_ok _ _ _ _ m ps l _ (Nat.lt_of_lt_of_le hB (hA (.cells #[.slice ao m.vars.length ac, .slice ro m.rules.length rc, .slice po ps.length pc, .slice fo l.length fc] 34) (.cells #[.int .i64 code, .int .i64 (c : Int)] 47)).size) (hT.below (hA _ _) hB) (hV.below (hA _ _)) hk
  have HCl : Hid (∀ (w' : World) (B bs bl : Nat) (ho : Option Addr) (hc : Nat), SurvAt w' B (.slice ao m.vars.length ac) (.slice ro m.rules.length rc) (.slice po ps.length pc) (.slice fo l.length fc) (.slice ho (aheadL l).length hc) bs bl → ∀ q, Calls Tryz.prog 25 #[.pointer (some ⟨B, 0, none⟩)] (w'.drewN q) fun e w'' => e = .returned (.int .i64 ((2 ^ (aheadL l).length : Nat) : Int)) ∧ w'' = w'.drewN q) := fun w' B bs bl ho hc h q => claims_any B _ _ _ _ ho _ hc bs bl (w'.drewN q) h6 (h.later (belowD _ _))
  have HSp : Hid (∀ (o o' : Obj) (w' : World), o' = .cells #[.int .i64 code, .int .i64 (c : Int)] 47 → Below ((w.alloc o).alloc o').heap.size ((w.alloc o).alloc o') w' → w'.cell? ⟨w.heap.size + 1, 0, none⟩ = some (.int .i64 code) ∧ w'.cell? ⟨w.heap.size + 1, 1, none⟩ = some (.int .i64 (c : Int))) := fun o o' w' e h => by
    subst e
    exact ⟨(h.cell (p := ⟨w.heap.size + 1, 0, none⟩) (by simp)).trans (by simp [go_sem]), (h.cell (p := ⟨w.heap.size + 1, 1, none⟩) (by simp)).trans (by simp [go_sem])⟩
  have HBh : Hid (∀ (w' : World) (n : Nat) (ho : Option Addr) (hc : Nat), Below w.heap.size w w' → SvOk w w' (n + 2) n (n + 1) 0 (.slice ao m.vars.length ac) (.slice ro m.rules.length rc) (.slice po ps.length pc) (.slice fo l.length fc) m ps l ho hc → Calls Tryz.prog 26 #[.pointer (some ⟨n + 2, 0, none⟩), .agg #[.int .i64 code, .int .i64 (c : Int)]] w' fun e w'' => ∃ so sc, e = .returned (.tuple #[.slice so (bhL m ps l code (c : Int)).length sc, .int .i64 (bhC m ps l code (c : Int))]) ∧ Below w.heap.size w w'' ∧ Hid (SpO w'' w.heap.size (.slice so (bhL m ps l code (c : Int)).length sc) (bhL m ps l code (c : Int)))) := fun w' n ho hc hb hS => by
    by_cases hcr : 0 ≤ code ∧ code < prodTo m.vars m.vars.length
    · refine (behind_in w w' (n + 2) n (n + 1) 0 _ _ _ _ m ps l ho hc code c hI hB hT hV hk hS (by omega) hcr hcN).mono fun e w'' ⟨h1, h2, h3⟩ => ?_
      have hw0 := wcode_yes hm0 hcr
      rcases h3 with ⟨_, so, sc, h4, h5⟩ | ⟨h4, _⟩
      · rw [bhL_ok (by rw [hbc, hw0]), hbc, hw0]
        exact ⟨so, sc, h4, h2.out.bel, owns_mono h5.out hb.size⟩
      · exact absurd hw0 h4
    · refine (behind_out w w' (n + 2) n (n + 1) 0 _ _ _ _ m ps l ho hc code (c : Int) hI hB hT hV hk hS (by omega) (by rw [wcode_no hm0 hcr]; decide)).mono fun e w'' ⟨h1, h2, h3⟩ => ?_
      have hw9 := wcode_no hm0 hcr
      rcases h3 with ⟨h4, _⟩ | ⟨_, h4⟩
      · rw [hw9] at h4; exact absurd h4 (by decide)
      · rw [bhL_bad (by rw [hbc, hw9]; decide), hbc]
        exact ⟨none, 0, h4, h2.out.bel, SpO.nil _ _⟩
  have HMd : Hid (∀ (o o' : Obj) (w' : World) (n : Nat) (ho : Option Addr) (hc : Nat), Below ((w.alloc o).alloc o').heap.size ((w.alloc o).alloc o') w' → ((w.alloc o).alloc o').heap.size ≤ n → SurvAt w' (n + 2) (.slice ao m.vars.length ac) (.slice ro m.rules.length rc) (.slice po ps.length pc) (.slice fo l.length fc) (.slice ho (aheadL l).length hc) n (n + 1) → w'.ownsRow ((w.alloc o).alloc o').heap.size 3 1 (.slice ho (aheadL l).length hc) (aheadL l).length (ivals (aheadL l)) → w'.heap[n]? = some (.map #[] 0) ∧ w'.heap[n + 1]? = some (.map #[] 0) → ∀ q, SvOk w (w'.drewN q) (n + 2) n (n + 1) 0 (.slice ao m.vars.length ac) (.slice ro m.rules.length rc) (.slice po ps.length pc) (.slice fo l.length fc) m ps l ho hc) := fun o o' w' n ho hc h1 h2 h3 h4 h5 q => (SvOk.made (hA o o') h1 h2 h3 h4 h5.1 h5.2).below (belowD _ _)
  have hci : (c : Int) < ((2 ^ (aheadL l).length : Nat) : Int) := by omega
  unfold SurvPost at hsv
  generalize (bhL m ps l code (c : Int)) = bhl at *
  generalize bhC m ps l code (c : Int) = bhc at *
  generalize ivals (aheadL l) = iv at *
  generalize 2 ^ (aheadL l).length = N at *
  generalize (aheadL l).length = an at *
  generalize m.vars.length = vn at *
  generalize m.rules.length = rn at *
  generalize ps.length = pn at *
  generalize l.length = fn at *
  generalize bhl.length = bn at *
  clear hV hT hk hbc
  go_enter Tryz.func10, Tryz.ntmps10
  go_wp2_with (first | (go_at_call 24; refine hsv.mono ?_; rintro e w1 ⟨n, ho, hc, rfl, hb1, hn1, _, HSv, HOw, HMp⟩; have hbw := (hA _ _).trans (hb1.mono (hA _ _).size); have hcl := HCl.out w1 _ _ _ _ _ HSv.out; obtain ⟨s0, s1⟩ := HSp.out _ _ w1 rfl hb1; have HSk := (show Hid _ from HMd.out _ _ w1 n ho hc hb1 hn1 HSv.out HOw.out HMp.out)))
  have h0 : ¬ (c : Int) < 0 := by omega
  have h1 : ¬ (N : Int) ≤ (c : Int) := by omega
  have h1n : ¬ N ≤ c := by omega
  have h0d : decide ((c : Int) < 0) = false := decide_eq_false h0
  have h1d : decide ((N : Int) ≤ (c : Int)) = false := decide_eq_false h1
  go_quiet (first | (go_at_call 25; exact Calls.quiet_of_same (hcl _)))
  have hbe := fun q => HBh.out (w1.drewN q) n ho hc ⟨hbw.os, hbw.tape, hbw.output, hbw.size, hbw.block⟩ (HSk.out q)
  clear hcl HSk
  go_wp2_with (first | (go_at_call 26; refine (hbe _).mono ?_; rintro e w2 ⟨so, sc, rfl, hb2, HO⟩))
  go_ret2
  exact ⟨so, sc, rfl, hb2, HO⟩
set_option maxRecDepth 20000 in
/-- THE CONTRACT OF product.Behind. -/
theorem pbehind_any (va vr pv fv : Value) (m : Mo) (ps : List (List (Int × Int))) (l : List (Int × Int)) (code c : Int) (hI : -9223372036854775808 ≤ code ∧ code ≤ 9223372036854775807) (w : World) (hB : 0 < w.heap.size) (hT : TabAt w) (hV : TaskV w va vr pv fv m ps l) :
    Calls Tryz.prog 10 #[.agg #[va, vr, pv, fv], .agg #[.int .i64 code, .int .i64 c]] w (BdPost w m ps l code c) := by
  by_cases hk : tkcode m ps l = 0
  · by_cases hc : 0 ≤ c ∧ c < ((2 ^ (aheadL l).length : Nat) : Int)
    · obtain ⟨k, rfl⟩ : ∃ k : Nat, c = (k : Int) := ⟨c.toNat, by omega⟩
      exact pbehind_ok va vr pv fv m ps l code k hI w hB hT hV hk (by omega)
    · exact pbehind_no va vr pv fv m ps l code c w hB hT hV hk hc
  · exact pbehind_bad va vr pv fv m ps l code c w hB hT hV hk
end Go.Proofs.YtafbnmiipfkohaaGreatDoor

/-
  What the program answers of the next states of a model that the keeping laws make.
-/
namespace Go.Proofs.YtafbnmiipfkohaaGreatDoor
open Go.ChangeShapes Go.WideShapes Go.ChangeAt Go.RowKit Go.Deep
open Terms Tm

/-- a list of next states. -/
structure UpTo (l : List Int) (N : Int) (rn : Nat) : Prop where
  rise : Rise l
  inN : ∀ x ∈ l, 0 ≤ x ∧ x < N
  some : 0 < l.length
  few : l.length ≤ max rn 1
set_option maxRecDepth 20000 in
theorem UpTo.at {l : List Int} {N : Int} {rn : Nat} (h : UpTo l N rn) {i : Nat} (hi : i < l.length) : 0 ≤ l.getD i 0 ∧ l.getD i 0 < N := by
  rw [show l.getD i 0 = l[i] by simp [List.getD_eq_getElem?_getD, hi]]
  exact h.inN _ (List.getElem_mem hi)
set_option maxRecDepth 20000 in
theorem UpTo.up {l : List Int} {N : Int} {rn : Nat} (h : UpTo l N rn) {i : Nat} (hi : i + 1 < l.length) : l.getD i 0 < l.getD (i + 1) 0 := by
  rw [show l.getD i 0 = l[i] by simp [List.getD_eq_getElem?_getD, show i < l.length by omega], show l.getD (i + 1) 0 = l[i + 1] by simp [List.getD_eq_getElem?_getD, hi]]
  exact List.pairwise_iff_getElem.1 h.rise i (i + 1) (by omega) hi (by omega)
set_option maxRecDepth 20000 in
theorem rawL_facts {a b : Vr} (hG : GV a b) {rules : List Ru} {c : Int} (hc : 0 ≤ c ∧ c < vspan a * vspan b) : (∀ x ∈ rawL ⟨[a, b], rules⟩ c, 0 ≤ x ∧ x < vspan a * vspan b) ∧ 0 < (rawL ⟨[a, b], rules⟩ c).length ∧ (rawL ⟨[a, b], rules⟩ c).length ≤ max rules.length 1 := by
  have hv := varsOk_of hG.vcode
  have hp := prod_two a b
  unfold rawL
  split
  · exact ⟨fun x hx => by simp at hx; subst hx; exact hc, by simp, by simp; omega⟩
  · rename_i h
    refine ⟨fun x hx => ?_, List.length_pos_iff.2 h, ?_⟩
    · obtain ⟨j, _, e⟩ := (rawTo_mem (Nat.le_refl _) x).1 hx
      have := ruleDo_state hv e
      rw [← hp]; exact this
    · have := rawTo_length [a, b] (valsL [a, b] c) rules rules.length
      show (rawTo [a, b] (valsL [a, b] c) rules rules.length).length ≤ _
      omega
set_option maxRecDepth 20000 in
theorem upL_pos {l : List Int} (h : 0 < l.length) : 0 < (upL l).length := by
  obtain ⟨x, hx⟩ := List.exists_mem_of_length_pos h
  exact List.length_pos_of_mem (((upL_spec l).2 x).2 hx)
set_option maxRecDepth 20000 in
theorem nextL_up {a b : Vr} (hG : GV a b) {rules : List Ru} {c : Int} (hc : 0 ≤ c ∧ c < vspan a * vspan b) : UpTo (nextL ⟨[a, b], rules⟩ c) (vspan a * vspan b) rules.length := by
  obtain ⟨h1, h2, h3⟩ := rawL_facts hG (rules := rules) hc
  refine ⟨(upL_spec _).1, fun x hx => h1 x (((upL_spec _).2 x).1 hx), upL_pos h2, Nat.le_trans (upL_length _) h3⟩
set_option maxRecDepth 20000 in
theorem gwcode {a b : Vr} (hG : GV a b) {rules : List Ru} (h5 : rules.length ≤ 12) (hr : ∀ j, j < rules.length → rcode 2 (rules.getD j ru0) = 0) {c : Int} (hc : 0 ≤ c ∧ c < vspan a * vspan b) : wcode ⟨[a, b], rules⟩ c = 0 :=
  wcode_yes (hG.mcode h5 hr) ⟨hc.1, by show c < prodTo [a, b] 2; rw [prod_two]; exact hc.2⟩
set_option maxRecDepth 20000 in
/-- step.Next of such a model. -/
theorem knext {a b : Vr} {va : Value} {ro : Option Addr} {rn rc : Nat} {w : World} (hG : GV a b) {c : Int} (hc : 0 ≤ c ∧ c < vspan a * vspan b) (hB : 0 < w.heap.size) (hT : TabAt w) (hM : GModel w va (.slice ro rn rc) [a, b]) :
    Calls Tryz.prog 9 #[.agg #[va, .slice ro rn rc], .int .i64 c] w fun e w' => ∃ v l, e = .returned (.tuple #[v, .int .i64 0]) ∧ Below w.heap.size w w' ∧ IntsV w' v l ∧ UpTo l (vspan a * vspan b) rn := by
  obtain ⟨rules, h1, h2, h3⟩ := hM
  have hrn : rn = rules.length := by
    obtain ⟨ao, cap, e, _⟩ := h1.2
    injection e
  have hw := gwcode hG (by omega) h3 hc
  have h := next_any va _ ⟨[a, b], rules⟩ c w hB hT h1
  rw [hw, show nxtL ⟨[a, b], rules⟩ c = nextL ⟨[a, b], rules⟩ c by unfold nxtL; rw [if_pos hw]] at h
  exact h.mono fun e w' ⟨v, he, hb, hi⟩ => ⟨v, _, he, hb, hi, by rw [hrn]; exact nextL_up hG hc⟩
end Go.Proofs.YtafbnmiipfkohaaGreatDoor

/-
  The keeping laws' own has; what the program answers of a model that they make, its rules at hand.
-/
namespace Go.Proofs.YtafbnmiipfkohaaGreatDoor
open Go.ChangeShapes Go.WideShapes Go.ChangeAt Go.RowKit Go.Deep
open Terms Tm

set_option maxRecDepth 20000 in
theorem mem_take_succ {l : List Int} {k : Nat} (hk : k < l.length) (x : Int) : x ∈ l.take (k + 1) ↔ x ∈ l.take k ∨ x = l.getD k 0 := by
  rw [List.take_succ_eq_append_getElem hk, show l[k] = l.getD k 0 by simp [List.getD_eq_getElem?_getD, hk]]
  simp
set_option maxRecDepth 20000 in
set_option maxHeartbeats 1600000 in
/-- THE CONTRACT OF has. -/
theorem has_any (v : Value) (l : List Int) (x : Int) (w : World) (hl : l.length ≤ 1000) (hI : IntsV w v l) :
    Calls Tryz.prog 11 #[v, .int .i64 x] w fun e w' => e = .returned (.bool (decide (x ∈ l))) ∧ Below w.heap.size w w' := by
  obtain ⟨vo, vc, rfl⟩ := hI.shape
  obtain ⟨n, hn⟩ : ∃ n, n = l.length := ⟨_, rfl⟩
  have HN : Hid (n = l.length) := hn
  have HI : Hid (IntsV w (.slice vo n vc) l) := by rw [hn]; exact hI
  rw [← hn] at hl ⊢
  obtain ⟨res, hres⟩ : ∃ res, decide (x ∈ l) = res := ⟨_, rfl⟩
  have HRes : Hid (decide (x ∈ l) = res) := hres
  rw [hres]
  clear hI hn hres
  go_enter Tryz.func11, Tryz.ntmps11
  go_wp2_with fail
  go_loopw [5] (fun i wr => ∃ k : Nat, k ≤ n ∧ i = .int .i64 k ∧ Hid (¬ x ∈ l.take k) ∧ wr = w) (fun i _ => n - (intOf i).toNat)
  case atStart => exact ⟨0, Nat.zero_le _, rfl, (show ¬ x ∈ l.take 0 by simp), rfl⟩
  case round =>
    obtain ⟨k, hk, rfl, HNo, rfl⟩ := hrel
    by_cases hlt : k < n
    · obtain ⟨b, off, rfl, hb, hc⟩ := HI.out.at (i := k) (by rw [← HN.out]; exact hlt)
      have hk' : k < l.length := by rw [← HN.out]; exact hlt
      by_cases hx : l.getD k 0 = x
      · have hr : res = true := by
          rw [← HRes.out]
          refine decide_eq_true ?_
          rw [← hx, show l.getD k 0 = l[k] by simp [List.getD_eq_getElem?_getD, hk']]
          exact List.getElem_mem hk'
        rw [hx] at hc
        subst hr
        clear hx hk'
        go_wp2_with fail
        go_ret
        exact ⟨rfl, Below.refl _ _⟩
      · have HNo2 : Hid (¬ x ∈ l.take (k + 1)) := by
          show ¬ _
          rw [mem_take_succ hk']
          rintro (h | h)
          · exact HNo.out h
          · exact hx h.symm
        generalize l.getD k 0 = y at hc hx
        clear hk' HNo
        go_wp2_with fail
        go_roundw
        case rel => exact ⟨k + 1, hlt, by go_num, HNo2.out, by first | rfl | trivial⟩
        case measure => simp [intOf]; omega
    · have hkn : k = n := by omega
      subst hkn
      have hr : res = false := by
        rw [← HRes.out]
        refine decide_eq_false ?_
        have := HNo.out
        rwa [List.take_of_length_le (by rw [← HN.out]; omega)] at this
      subst hr
      go_wp2_with fail
      go_ret
      exact ⟨rfl, Below.refl _ _⟩
end Go.Proofs.YtafbnmiipfkohaaGreatDoor

/-
  Spots behind a spot are at next states, and each next state has one.
-/
namespace Go.Proofs.YtafbnmiipfkohaaGreatDoor
open Go.ChangeShapes Go.WideShapes Go.ChangeAt Go.RowKit Go.Deep Go.Maps
open Terms Tm

set_option maxRecDepth 20000 in
theorem foTo_mem {l : List (Int × Int)} {x : List Bool} {c : Int} {y : List Bool} {st : Int} : ∀ {k : Nat} {p : Int × Int}, p ∈ foTo l x c y st k → p.1 = st
  | 0, p, h => by simp [foTo] at h
  | k + 1, p, h => by
    rw [foTo] at h
    split at h
    · rcases List.mem_append.1 h with h | h
      · exact foTo_mem h
      · simp only [List.mem_singleton] at h; subst h; rfl
    · exact foTo_mem h
set_option maxRecDepth 20000 in
theorem foTo_has {l : List (Int × Int)} {x : List Bool} {c : Int} {y : List Bool} {st : Int} {d : Nat} (h : folR l x c y (d : Int) = true) : ∀ {k : Nat}, d < k → (st, (d : Int)) ∈ foTo l x c y st k
  | 0, hd => by omega
  | k + 1, hd => by
    rw [foTo]
    rcases (show d < k ∨ d = k by omega) with h1 | h1
    · split
      · exact List.mem_append.2 (.inl (foTo_has h h1))
      · exact foTo_has h h1
    · subst h1
      rw [if_pos h]
      simp
set_option maxRecDepth 20000 in
theorem behTo_mem {m : Mo} {ps : List (List (Int × Int))} {l : List (Int × Int)} {code c : Int} : ∀ {i : Nat} {p : Int × Int}, i ≤ (nextL m code).length → p ∈ behTo m ps l code c i → p.1 ∈ nextL m code
  | 0, p, _, h => by simp [behTo] at h
  | i + 1, p, hi, h => by
    rw [behTo] at h
    rcases List.mem_append.1 h with h | h
    · exact behTo_mem (by omega) h
    · rw [foTo_mem h, List.getD_eq_getElem?_getD, List.getElem?_eq_getElem (show i < (nextL m code).length by omega)]
      exact List.getElem_mem _
set_option maxRecDepth 20000 in
theorem behTo_has {m : Mo} {ps : List (List (Int × Int))} {l : List (Int × Int)} {code c : Int} {q : Nat} {d : Nat} (hd : d < 2 ^ (aheadL l).length) (h : folR l (letL m ps code) c (letL m ps ((nextL m code).getD q 0)) (d : Int) = true) : ∀ {i : Nat}, q < i → ((nextL m code).getD q 0, (d : Int)) ∈ behTo m ps l code c i
  | 0, hq => by omega
  | i + 1, hq => by
    rw [behTo]
    rcases (show q < i ∨ q = i by omega) with h1 | h1
    · exact List.mem_append.2 (.inl (behTo_has hd h h1))
    · subst h1
      exact List.mem_append.2 (.inr (foTo_has h hd))
set_option maxRecDepth 20000 in
/-- each next state has a spot that some claim leads to. -/
theorem beh_some {m : Mo} {ps : List (List (Int × Int))} {l : List (Int × Int)} (hk : tkcode m ps l = 0) {code : Int} (hcr : 0 ≤ code ∧ code < prodTo m.vars m.vars.length) {q : Nat} (hq : q < (nextL m code).length) : ∃ c : Nat, c < 2 ^ (aheadL l).length ∧ ∃ p, p ∈ behL m ps l code (c : Int) ∧ p.1 = (nextL m code).getD q 0 := by
  obtain ⟨hp0, hl0⟩ := tk_zero hk
  obtain ⟨_, _, hz, _, _⟩ := lcode_zero hl0
  have hm0 := (pcode_m hp0).1
  have hin := nextL_st hm0 hcr (y := (nextL m code).getD q 0) (by rw [List.getD_eq_getElem?_getD, List.getElem?_eq_getElem hq]; exact List.getElem_mem _)
  obtain ⟨c, h0, h1, hf⟩ := fol_some hz (letL m ps code) (tru l (letL m ps ((nextL m code).getD q 0)) ((0 : Nat) : Int))
  obtain ⟨k, rfl⟩ : ∃ k : Nat, c = (k : Int) := ⟨c.toNat, by omega⟩
  have hk2 : k < 2 ^ (aheadL l).length := by
    have : ((2 ^ (aheadL l).length : Nat) : Int) = (2 : Int) ^ (aheadL l).length := by push_cast; rfl
    rw [← this] at h1
    omega
  have hpos : 0 < 2 ^ (aheadL l).length := Nat.pow_pos (by decide)
  refine ⟨k, hk2, _, behTo_has (d := 0) hpos (folR_yes ?_ hf) hq, rfl⟩
  unfold fcode
  rw [if_neg (by rw [(tk_let hk hcr).2, (tk_let hk hin).2]; simp), if_neg (by rw [(tk_tru hk hcr hk2).1]; simp)]
  exact (tk_tru hk hin hpos).1
section
variable {W : World}
set_option maxRecDepth 20000 in
theorem one_new (w : World) (x : Value) (t : TypeId) : ∀ j u, [x][j]? = some u → (w.alloc (.cells #[x] t)).cell? ((⟨w.heap.size, 0, none⟩ : Addr).add j) = some u := by
  intro j u hj
  match j, hj with
  | 0, hj => simp at hj; subst hj; simp [Addr.add, go_sem]
set_option maxRecDepth 20000 in
/-- one more number. -/
theorem push_n {ops : Array Oper} {rest : List Oper} {o : Oper} {a : Act} {Q : Exit → Act → World → Prop} (y : Int) (hgd : o.guard = none) (s x : Operand)
    (ho : o.op = .call { callee := .builtin .append, args := #[s, x], argTypes := #[40, 40] })
    (base n cap : Nat) (vo : Option Addr) (l : List Int) (hl : l.length = n) (hs : a.eval s = .slice vo n cap) (hown : W.ownsRow base 3 1 (.slice vo n cap) n (ivals l)) (hx : a.eval x = .slice (some ⟨W.heap.size, 0, none⟩) 1 1)
    (hsz : (n + 1) * 8 ≤ 140737488355328) (hbase : base ≤ W.heap.size)
    (h : ∀ vo' cap' w', w'.ownsRow base 3 1 (.slice vo' (n + 1) cap') (n + 1) (ivals (l ++ [y])) → Below base W w' → (W.alloc (.cells #[.int .i64 y] 3)).grownBy w' (Value.slice vo n cap).ownBlock → wpList Tryz.prog ops Q rest (a.put o.dst (.slice vo' (n + 1) cap')) w') : wpList Tryz.prog ops Q (o :: rest) a (W.alloc (.cells #[.int .i64 y] 3)) := by
  subst hl
  obtain ⟨i0, hi, hz0, hz1, hz2⟩ := info_parts infoInt
  refine wpList_append_own _ hgd s x 40 ho base 3 i0 (.int .i64 0) 1 8 Tryz.underlying40 hi hz0 hz1 hz2 rfl (by decide) (.slice vo l.length cap) l.length (ivals l) hs (hown.alloc _) ⟨W.heap.size, 0, none⟩ 1 1 [.int .i64 y] hx rfl (one_new _ _ _) (by intro u hu; simp at hu; subst hu; rfl) (by unfold maxLen; omega) hsz (Nat.le_trans hbase (by simp)) ?_
  intro v' w4 hown' hgrow _
  obtain ⟨a4, c4, rfl⟩ := owns_slice hown'
  refine h a4 c4 w4 ?_ (((Below.refl base W).alloc hbase _).grown hgrow (Nat.le_trans hbase (by simp)) (fun q hq => (World.ownsRow.lt hown q hq).1)) hgrow
  have e : ivals (l ++ [y]) = ivals l ++ [.int .i64 y] := by simp [ivals]
  rw [e]
  exact hown'
end
set_option maxRecDepth 20000 in
/-- spots stay while a row of numbers grows. -/
theorem SpV.grownI {w w' : World} {v : Value} {x : List (Int × Int)} {own : Option Nat} (h : SpV w v x) (hty : RowTy w v 47) (hg : w.grownBy w' own) (ho : ∀ g, own = some g → ∃ cs fr, w.heap[g]? = some (.cells cs 3 fr)) : SpV w' v x := by
  obtain ⟨ao, cap, rfl, h⟩ := h
  refine ⟨ao, cap, rfl, fun hne => ?_⟩
  obtain ⟨b, off, rfl, hlt, hat⟩ := h hne
  obtain ⟨cs, fr, h1⟩ := hty _ _ _ rfl
  have hb : w'.heap[b]? = w.heap[b]? := hg.block b hlt (fun e2 => by
    obtain ⟨cs', fr', h2⟩ := ho _ e2.symm
    rw [h1] at h2
    injection h2 with h2
    injection h2 with _ h3 _
    exact absurd h3 (by decide))
  exact ⟨b, off, rfl, Nat.lt_of_lt_of_le hlt hg.size, fun i hi => ⟨(World.cell?_of_block hb).trans (hat i hi).1, (World.cell?_of_block hb).trans (hat i hi).2⟩⟩
set_option maxRecDepth 20000 in
theorem SpV.spot {w : World} {ao : Option Addr} {n cap : Nat} {A : List (Int × Int)} (h : SpV w (.slice ao n cap) A) (hn : A.length = n) {i : Nat} (hi : i < n) : ∃ b off, ao = some ⟨b, off, none⟩ ∧ w.cell? ⟨b, off + i * 2, none⟩ = some (.int .i64 (A.getD i (0, 0)).1) ∧ w.cell? ⟨b, off + i * 2 + 1, none⟩ = some (.int .i64 (A.getD i (0, 0)).2) := by
  obtain ⟨a, c, e, h1⟩ := h
  injection e with e _ _
  subst e
  obtain ⟨b, off, rfl, _, hat⟩ := h1 (by intro e; rw [e] at hn; simp at hn; omega)
  exact ⟨b, off, rfl, (hat i (by omega)).1, (hat i (by omega)).2⟩
set_option maxRecDepth 20000 in
theorem own_int {w : World} {base n cap : Nat} {vo : Option Addr} {xs : List Value} (h : w.ownsRow base 3 1 (.slice vo n cap) n xs) (o : Obj) : ∀ g, (Value.slice vo n cap).ownBlock = some g → ∃ cs fr, (w.alloc o).heap[g]? = some (.cells cs 3 fr) := by
  intro g hg
  rcases h.2 with ⟨h0, _⟩ | ⟨g', cap', cur, h1, _, h3, _⟩
  · rw [h0] at hg; simp [Value.ownBlock] at hg
  · rw [h1] at hg
    simp [Value.ownBlock] at hg
    subst hg
    exact ⟨cur, _, (Below.heap_alloc w o g' (Array.getElem?_eq_some_iff.1 h3).1).trans h3⟩
end Go.Proofs.YtafbnmiipfkohaaGreatDoor

/-
  The walk of the law BehindNext.
-/
namespace Go.Proofs.YtafbnmiipfkohaaGreatDoor
open Go.ChangeShapes Go.WideShapes Go.ChangeAt Go.RowKit Go.Deep Go.Maps
open Terms Tm

set_option maxRecDepth 20000 in
theorem behTo_lenN (m : Mo) (ps : List (List (Int × Int))) (l : List (Int × Int)) (code c : Int) : ∀ i, (behTo m ps l code c i).length ≤ i * 2 ^ (aheadL l).length
  | 0 => by simp [behTo]
  | i + 1 => by
    rw [behTo, List.length_append]
    have h1 := behTo_lenN m ps l code c i
    have h2 := foTo_len l (letL m ps code) c (letL m ps ((nextL m code).getD i 0)) ((nextL m code).getD i 0) (2 ^ (aheadL l).length)
    rw [Nat.succ_mul]
    omega

set_option maxHeartbeats 6400000 in
set_option maxRecDepth 20000 in
theorem behindNext_walk (c0 c1 c2 c3 c4 c5 c6 : Value) (a b : Vr) (rawv : Value) (rs : List (Int × Int)) (cd : Int) (w : World) (hB : 0 < w.heap.size) (hT : TabAt w) (hG : GV a b) (hcd : I64 cd) (hR : Raws w w.heap.size rawv rs)
    (hmd : ∀ w', Below w.heap.size w w' → Calls Tryz.prog 18 #[.agg #[c0, c1, c2, c3, c4, c5, c6]] w' fun e w2 => ∃ va vr, e = .returned (.agg #[va, vr]) ∧ Below w'.heap.size w' w2 ∧ GModel w2 va vr [a, b]) :
    Calls Tryz.prog 3 #[.agg #[c0, c1, c2, c3, c4, c5, c6], rawv, .int .i64 cd] w fun e w' => e = .returned (.bool true) ∧ Below w.heap.size w w' := by
  have hA1 : Below w.heap.size w (w.alloc (.cells #[c0, c1, c2, c3, c4, c5, c6] 25)) := (Below.refl _ _).alloc (Nat.le_refl _) _
  have htk0 := taskFn_any c0 c1 c2 c3 c4 c5 c6 a b rawv rs 2 _ hG (by decide) (hR.up hA1) (fun w' h => hmd w' (hA1.trans (h.mono hA1.size)))
  have hspan : 1 ≤ vspan a * vspan b ∧ vspan a * vspan b ≤ 16 := by
    have h1 : 1 ≤ vspan a ∧ vspan a ≤ 4 := by have := hG.a2; have := hG.a3; unfold vspan; omega
    have h2 : 1 ≤ vspan b ∧ vspan b ≤ 4 := by have := hG.b2; have := hG.b3; unfold vspan; omega
    obtain ⟨x1, x2⟩ := h1
    obtain ⟨y1, y2⟩ := h2
    generalize vspan a = x at *
    generalize vspan b = y at *
    rcases (show x = 1 ∨ x = 2 ∨ x = 3 ∨ x = 4 by omega) with rfl | rfl | rfl | rfl <;> omega
  obtain ⟨ra, rn0, rc0, hra⟩ : ∃ a n c, rawv = .slice a n c := by obtain ⟨⟨a, c, h, _⟩, _, _⟩ := hR; exact ⟨_, _, _, h⟩
  subst hra
  -- what is known of the task
  have htk : Calls Tryz.prog 6 #[.agg #[c0, c1, c2, c3, c4, c5, c6], .slice ra rn0 rc0, .int .i64 2] (w.alloc (.cells #[c0, c1, c2, c3, c4, c5, c6] 25)) fun e w1 => ∃ (ao : Option Addr) (ac : Nat) (ro : Option Addr) (rn rc pb : Nat) (fo : Option Addr) (fn fc N nn : Nat) (P code : Int) (nx : List Int) (bh : Nat → List (Int × Int)), e = .returned (.agg #[.slice ao 2 ac, .slice ro rn rc, .slice (some ⟨pb, 0, none⟩) 3 3, .slice fo fn fc]) ∧ Below w.heap.size w w1 ∧ N ≤ 4 ∧ 1 ≤ P ∧ P ≤ 16 ∧ nn ≤ 16 ∧ 0 < nn ∧
      Hid (∀ w', Below w1.heap.size w1 w' → Calls Tryz.prog 7 #[.agg #[.slice ao 2 ac, .slice ro rn rc]] w' fun e w2 => e = .returned (.tuple #[.int .i64 P, .int .i64 0]) ∧ Below w'.heap.size w' w2) ∧
      Hid (∀ w', Calls Tryz.prog 8 #[.int .i64 cd, .int .i64 P] w' fun e w2 => e = .returned (.int .i64 code) ∧ w2 = w') ∧
      Hid (∀ w', Below w1.heap.size w1 w' → Calls Tryz.prog 9 #[.agg #[.slice ao 2 ac, .slice ro rn rc], .int .i64 code] w' fun e w2 => ∃ no nc, e = .returned (.tuple #[.slice no nn nc, .int .i64 0]) ∧ Below w'.heap.size w' w2 ∧ Hid (IntsV w2 (.slice no nn nc) nx)) ∧
      Hid (∀ (w' : World) (k : Nat), Below w1.heap.size w1 w' → k < N → Calls Tryz.prog 10 #[.agg #[.slice ao 2 ac, .slice ro rn rc, .slice (some ⟨pb, 0, none⟩) 3 3, .slice fo fn fc], .agg #[.int .i64 code, .int .i64 (k : Int)]] w' fun e w2 => ∃ so sn sc, e = .returned (.tuple #[.slice so sn sc, .int .i64 0]) ∧ Below w'.heap.size w' w2 ∧ sn ≤ 64 ∧ Hid (SpV w2 (.slice so sn sc) (bh k) ∧ RowTy w2 (.slice so sn sc) 47 ∧ (bh k).length = sn)) ∧
      Hid (∀ (w' : World) (k : Nat), Below w1.heap.size w1 w' → ¬ k < N → Calls Tryz.prog 10 #[.agg #[.slice ao 2 ac, .slice ro rn rc, .slice (some ⟨pb, 0, none⟩) 3 3, .slice fo fn fc], .agg #[.int .i64 code, .int .i64 (k : Int)]] w' fun e w2 => ∃ so sn sc, e = .returned (.tuple #[.slice so sn sc, .int .i64 9]) ∧ Below w'.heap.size w' w2) ∧
      Hid (nx.length = nn ∧ (∀ k p, p ∈ bh k → p.1 ∈ nx) ∧ ∀ q, q < nn → ∃ k, k < N ∧ ∃ p, p ∈ bh k ∧ p.1 = nx.getD q 0) := htk0.mono fun e w1 ⟨ao, ac, ro, rn, rc, pb, fo, fn, fc, m, l, mm, h1, h2, HV, HK, hmm, hfn⟩ => by
    have hbw1 := hA1.trans (h2.mono hA1.size)
    obtain ⟨hok, hvars, hfl, hne⟩ := HK.out
    obtain ⟨vars, rules⟩ := m
    simp only at hvars
    subst hvars
    have hk := hok.code
    have hah : (aheadL l).length = mm := by obtain ⟨T, hT⟩ := hok.fo; exact hT.ahead
    have hP : prodTo [a, b] 2 = vspan a * vspan b := prod_two a b
    obtain ⟨hp0, hp5⟩ := pk_range (n := cd) (m := vspan a * vspan b) (by omega)
    have hcr : 0 ≤ pk cd (vspan a * vspan b) ∧ pk cd (vspan a * vspan b) < prodTo [a, b] 2 := ⟨hp0, by rw [hP]; exact hp5⟩
    have hup := nextL_up hG (rules := rules) (c := pk cd (vspan a * vspan b)) ⟨hp0, hp5⟩
    have hw0 := wcode_yes (m := ⟨[a, b], rules⟩) hok.mo hcr
    have hN4 : 2 ^ mm ≤ 4 := by have : 2 ^ mm ≤ 2 ^ 2 := Nat.pow_le_pow_right (by decide) hmm; omega
    have hnn : (nextL ⟨[a, b], rules⟩ (pk cd (vspan a * vspan b))).length ≤ 16 := by
      have := nodup_length (N := (vspan a * vspan b).toNat) (List.Pairwise.imp (fun {a b} h => by omega) hup.rise) (fun x hx => by have := hup.inN x hx; omega)
      omega
    have hblen : ∀ k : Nat, (behL ⟨[a, b], rules⟩ propsL l (pk cd (vspan a * vspan b)) (k : Int)).length ≤ 64 := fun k => by
      have := behTo_lenN ⟨[a, b], rules⟩ propsL l (pk cd (vspan a * vspan b)) (k : Int) (nextL ⟨[a, b], rules⟩ (pk cd (vspan a * vspan b))).length
      rw [hah] at this
      have h3 : (nextL ⟨[a, b], rules⟩ (pk cd (vspan a * vspan b))).length * 2 ^ mm ≤ 16 * 4 := Nat.mul_le_mul hnn hN4
      unfold behL
      omega
    refine ⟨ao, ac, ro, rn, rc, pb, fo, fn, fc, 2 ^ mm, (nextL ⟨[a, b], rules⟩ (pk cd (vspan a * vspan b))).length, vspan a * vspan b, pk cd (vspan a * vspan b), nextL ⟨[a, b], rules⟩ (pk cd (vspan a * vspan b)), fun k => behL ⟨[a, b], rules⟩ propsL l (pk cd (vspan a * vspan b)) (k : Int), h1, hbw1, hN4, hspan.1, hspan.2, hnn, hup.some, fun w' h => ?_, fun w' => picked_is cd _ w' hcd (by omega) (by omega), fun w' h => ?_, fun w' k h hkN => ?_, fun w' k h hkN => ?_, rfl, fun k p hp => behTo_mem (Nat.le_refl _) hp, fun q hq => ?_⟩
    · have h0 := hbw1.trans (h.mono hbw1.size)
      have := mcount_any _ _ _ w' (Nat.lt_of_lt_of_le hB h0.size) (hT.below h0 hB) (HV.out.mo.below h)
      rw [if_pos hok.mo, hok.mo] at this
      rw [← hP]
      exact this
    · have h0 := hbw1.trans (h.mono hbw1.size)
      refine (next_own _ _ _ (pk cd (vspan a * vspan b)) w' (Nat.lt_of_lt_of_le hB h0.size) (hT.below h0 hB) (HV.out.mo.below h) hok.mo).mono fun e w2 ⟨v, g1, g2, g3⟩ => ?_
      have e1 : nxtL ⟨[a, b], rules⟩ (pk cd (vspan a * vspan b)) = nextL ⟨[a, b], rules⟩ (pk cd (vspan a * vspan b)) := by unfold nxtL; rw [if_pos hw0]
      rw [e1] at g3
      obtain ⟨no, nc, rfl⟩ := owns_slice g3
      exact ⟨no, nc, by rw [g1, hw0], g2, intsV_of_owns g3⟩
    · have h0 := hbw1.trans (h.mono hbw1.size)
      refine (pbehind_any _ _ _ _ _ propsL l (pk cd (vspan a * vspan b)) (k : Int) (by omega) w' (Nat.lt_of_lt_of_le hB h0.size) (hT.below h0 hB) (HV.out.below h)).mono fun e w2 ⟨so, sc, g1, g2, g3⟩ => ?_
      have hc0 : bhC ⟨[a, b], rules⟩ propsL l (pk cd (vspan a * vspan b)) (k : Int) = 0 := by rw [bhC_ok hk ⟨by omega, by rw [hah]; omega⟩, hw0]
      rw [bhL_ok hc0] at g1 g3
      rw [hc0] at g1
      exact ⟨so, _, sc, g1, g2, hblen k, g3.out.v, RowTy.owns g3.out, rfl⟩
    · have h0 := hbw1.trans (h.mono hbw1.size)
      refine (pbehind_any _ _ _ _ _ propsL l (pk cd (vspan a * vspan b)) (k : Int) (by omega) w' (Nat.lt_of_lt_of_le hB h0.size) (hT.below h0 hB) (HV.out.below h)).mono fun e w2 ⟨so, sc, g1, g2, g3⟩ => ?_
      have hc9 : bhC ⟨[a, b], rules⟩ propsL l (pk cd (vspan a * vspan b)) (k : Int) = 9 := bhC_no hk (by rw [hah]; omega)
      rw [hc9] at g1
      exact ⟨so, _, sc, g1, g2⟩
    · obtain ⟨k, h3, p, h4, h5⟩ := beh_some hk hcr hq
      rw [hah] at h3
      exact ⟨k, h3, p, h4, h5⟩
  have HHas : Hid (∀ (w' : World) (v : Value) (L : List Int) (x : Int), L.length ≤ 1000 → IntsV w' v L → x ∈ L → Calls Tryz.prog 11 #[v, .int .i64 x] w' fun e w2 => e = .returned (.bool true) ∧ Below w'.heap.size w' w2) := fun w' v L x h1 h2 h3 => by
    have := has_any v L x w' h1 h2
    rw [decide_eq_true h3] at this
    exact this
  clear hmd hR hT htk0 hspan hG
  go_enter Tryz.func3, Tryz.ntmps3
  go_wp2_with (first
    | (go_at_call 6; refine htk.mono ?_; rintro e w1 ⟨ao, ac, ro, rn, rc, pb, fo, fn, fc, N, nn, P, code, nx, bh, rfl, hbw1, hN4, hP1, hP16, hnn, hnn0, HCo, HPk, HNe, HBh, HBn, HM⟩; have hbT : Below w1.heap.size w1 (w1.alloc (.cells #[.slice ao 2 ac, .slice ro rn rc, .slice (some ⟨pb, 0, none⟩) 3 3, .slice fo fn fc] 34)) := (Below.refl _ _).alloc (Nat.le_refl _) _; have hco := HCo.out _ hbT; have hP1' : ¬ P < 1 := (by omega))
    | (go_at_call 7; refine hco.mono ?_; rintro e w2 ⟨rfl, hb2⟩; have hb12 := hbT.trans (hb2.mono hbT.size); have hpk := HPk.out w2; have hne := HNe.out w2 hb12; obtain ⟨p0, p1, p2, p3⟩ : w2.cell? ⟨w1.heap.size, 0, none⟩ = some (.slice ao 2 ac) ∧ w2.cell? ⟨w1.heap.size, 1, none⟩ = some (.slice ro rn rc) ∧ w2.cell? ⟨w1.heap.size, 2, none⟩ = some (.slice (some ⟨pb, 0, none⟩) 3 3) ∧ w2.cell? ⟨w1.heap.size, 3, none⟩ = some (.slice fo fn fc) := ⟨(hb2.cell (p := ⟨w1.heap.size, 0, none⟩) (by simp)).trans (by simp [go_sem]), (hb2.cell (p := ⟨w1.heap.size, 1, none⟩) (by simp)).trans (by simp [go_sem]), (hb2.cell (p := ⟨w1.heap.size, 2, none⟩) (by simp)).trans (by simp [go_sem]), (hb2.cell (p := ⟨w1.heap.size, 3, none⟩) (by simp)).trans (by simp [go_sem])⟩)
    | (go_at_call 8; refine hpk.mono ?_; rintro e w0 ⟨rfl, hw0⟩)
    | (go_at_call 9; refine hne.mono ?_; rintro e w3 ⟨no, nc, rfl, hb3, HNv⟩))
  have hb13 := hb12.trans (hb3.mono hb12.size)
  have hbw3 := hbw1.trans (hb13.mono hbw1.size)
  have HC3 : Hid (∀ w', Below w3.heap.size w3 w' → (w'.cell? ⟨w1.heap.size, 0, none⟩ = some (.slice ao 2 ac) ∧ w'.cell? ⟨w1.heap.size, 1, none⟩ = some (.slice ro rn rc) ∧ w'.cell? ⟨w1.heap.size, 2, none⟩ = some (.slice (some ⟨pb, 0, none⟩) 3 3) ∧ w'.cell? ⟨w1.heap.size, 3, none⟩ = some (.slice fo fn fc)) ∧ IntsV w' (.slice no nn nc) nx) := fun w' h => by
    have hlt : w1.heap.size < w2.heap.size := World.block_lt_of_cell? _ _ p0
    have h23 : Below w2.heap.size w2 w' := hb3.trans (h.mono hb3.size)
    exact ⟨⟨(h23.cell (p := ⟨w1.heap.size, 0, none⟩) hlt).trans p0, (h23.cell (p := ⟨w1.heap.size, 1, none⟩) hlt).trans p1, (h23.cell (p := ⟨w1.heap.size, 2, none⟩) hlt).trans p2, (h23.cell (p := ⟨w1.heap.size, 3, none⟩) hlt).trans p3⟩, HNv.out.below h⟩
  clear hco hpk hne htk HCo HPk HNe p0 p1 p2 p3 HNv
  go_loopw [13, 14] (fun u i wr => ∃ k : Nat, k ≤ 4 ∧ i = .int .i64 k ∧ (∃ mo mn mc, u = .slice mo mn mc ∧ mn ≤ k * 64 ∧ Hid (∃ M : List Int, M.length = mn ∧ wr.ownsRow w3.heap.size 3 1 (.slice mo mn mc) mn (ivals M) ∧ ∀ j, j < k → j < N → ∀ p ∈ bh j, p.1 ∈ M)) ∧ Below w3.heap.size w3 wr) (fun _ i _ => 4 - (intOf i).toNat)
  case atStart => exact ⟨0, by omega, rfl, ⟨none, 0, 0, rfl, by omega, [], rfl, World.ownsRow_nil _ _ _ _, fun j hj => by omega⟩, Below.refl _ _⟩
  case round =>
    obtain ⟨k, hk4, rfl, ⟨mo, mn, mc, rfl, hmn, HMt⟩, hbr⟩ := hrel
    have hb1r := hb13.trans (hbr.mono hb13.size)
    by_cases hlt : k < 4
    · obtain ⟨⟨x0, x1, x2, x3⟩, _⟩ := HC3.out wr hbr
      have hki : (k : Int) < 4 := by omega
      by_cases hkN : k < N
      · have hbe := HBh.out wr k hb1r hkN
        obtain ⟨M, hM1, hM2, hM3⟩ := HMt.out
        have HOw : Hid (∀ w', Below wr.heap.size wr w' → w'.ownsRow w3.heap.size 3 1 (.slice mo mn mc) mn (ivals M)) := fun w' h => owns_later hM2 h (Nat.le_refl _)
        have HMl : Hid (M.length = mn) := hM1
        have HM3 : Hid (∀ j, j < k → j < N → ∀ p ∈ bh j, p.1 ∈ M) := hM3
        clear hM1 hM2 hM3 HMt
        go_wp2_with (first | (go_at_call 10; refine hbe.mono ?_; rintro e w5 ⟨so, sn, sc, rfl, hb5, hsn, HSp⟩; have hb35 := hbr.trans (hb5.mono hbr.size)))
        have HO5 := (show Hid _ from HOw.out w5 hb5)
        go_loopw [13, 17] (fun u i wr2 => ∃ d : Nat, d ≤ sn ∧ i = .int .i64 d ∧ (∃ mo2 mn2 mc2, u = .slice mo2 mn2 mc2 ∧ mn2 ≤ mn + d ∧ Hid ((M ++ ((bh k).take d).map Prod.fst).length = mn2 ∧ wr2.ownsRow w3.heap.size 3 1 (.slice mo2 mn2 mc2) mn2 (ivals (M ++ ((bh k).take d).map Prod.fst)))) ∧ Below w3.heap.size w3 wr2 ∧ Hid (SpV wr2 (.slice so sn sc) (bh k) ∧ RowTy wr2 (.slice so sn sc) 47)) (fun _ i _ => sn - (intOf i).toNat)
        case atStart => exact ⟨0, by omega, rfl, ⟨mo, mn, mc, rfl, by omega, by rw [List.take_zero, List.map_nil, List.append_nil]; exact HMl.out, by rw [List.take_zero, List.map_nil, List.append_nil]; exact HO5.out⟩, hb35, HSp.out.1, HSp.out.2.1⟩
        case round =>
          obtain ⟨d, hds, rfl, ⟨mo2, mn2, mc2, rfl, hmn2, HM2⟩, hbr2, HS2⟩ := hrel
          by_cases hd : d < sn
          · obtain ⟨sb, soff, rfl, hc1, _⟩ := HS2.out.1.spot HSp.out.2.2 hd
            have hmem : ((bh k).getD d (0, 0)).1 ∈ nx := HM.out.2.1 k _ (by rw [List.getD_eq_getElem?_getD, List.getElem?_eq_getElem (by rw [HSp.out.2.2]; exact hd)]; exact List.getElem_mem _)
            have hha := HHas.out wr _ nx _ (by rw [HM.out.1]; omega) (HC3.out wr hbr2).2 hmem
            have htk2 : (bh k).take (d + 1) = (bh k).take d ++ [(bh k).getD d (0, 0)] := by
              rw [List.take_add_one, List.getD_eq_getElem?_getD, List.getElem?_eq_getElem (by rw [HSp.out.2.2]; exact hd)]
              simp
            have HE : Hid (M ++ ((bh k).take (d + 1)).map Prod.fst = (M ++ ((bh k).take d).map Prod.fst) ++ [((bh k).getD d (0, 0)).1]) := by show _ = _; rw [htk2]; simp
            have HL2 : Hid ((M ++ ((bh k).take d).map Prod.fst).length = mn2) := HM2.out.1
            have HN2 : Hid (∀ w', Below wr.heap.size wr w' → w'.ownsRow w3.heap.size 3 1 (.slice mo2 mn2 mc2) mn2 (ivals (M ++ ((bh k).take d).map Prod.fst)) ∧ SpV w' (.slice (some ⟨sb, soff, none⟩) sn sc) (bh k) ∧ RowTy w' (.slice (some ⟨sb, soff, none⟩) sn sc) 47 ∧ w'.cell? ⟨sb, soff + d * 2, none⟩ = some (.int .i64 ((bh k).getD d (0, 0)).1)) := fun w' h => ⟨owns_later HM2.out.2 h (Nat.le_refl _), HS2.out.1.below h, HS2.out.2.below h, (h.cell (p := ⟨sb, soff + d * 2, none⟩) (World.block_lt_of_cell? _ _ hc1)).trans hc1⟩
            have hdi : (d : Int) < (sn : Int) := by omega
            clear HM2 HS2 htk2 hmem
            generalize ((bh k).getD d (0, 0)).1 = st at *
            go_wp2_with (first | (go_at_call 11; refine hha.mono ?_; rintro e w6 ⟨rfl, hb6⟩; have hb36 := hbr2.trans (hb6.mono hbr2.size); obtain ⟨how6, hsp6, hty6, hc6⟩ := HN2.out w6 hb6; have hsz6 := hb36.size) | (at_builtin; refine push_n st rfl _ _ rfl w3.heap.size mn2 mc2 mo2 (M ++ ((bh k).take d).map Prod.fst) HL2.out rfl how6 rfl (by omega) hsz6 ?_; intro vo7 cap7 w7 ho7 hb7 hg7))
            have HQ : Hid (w7.ownsRow w3.heap.size 3 1 (.slice vo7 (mn2 + 1) cap7) (mn2 + 1) (ivals ((M ++ ((bh k).take d).map Prod.fst) ++ [st])) ∧ Below w3.heap.size w3 w7 ∧ SpV w7 (.slice (some ⟨sb, soff, none⟩) sn sc) (bh k) ∧ RowTy w7 (.slice (some ⟨sb, soff, none⟩) sn sc) 47) := by
              have ha : Below w6.heap.size w6 (w6.alloc (.cells #[.int .i64 st] 3)) := (Below.refl _ _).alloc (Nat.le_refl _) _
              have hown := own_int how6 (.cells #[.int .i64 st] 3)
              exact ⟨ho7, hb36.trans hb7, (hsp6.below ha).grownI (hty6.below ha) hg7 hown, (hty6.below ha).grown hg7 (by decide) hown⟩
            clear ho7 hb7 hg7 how6 hsp6 hty6 hc6
            go_wp2_with fail
            go_roundw
            case rel => exact ⟨d + 1, by omega, by go_num, ⟨vo7, mn2 + 1, cap7, rfl, by omega, by rw [HE.out, List.length_append, HL2.out]; rfl, by rw [HE.out]; exact HQ.out.1⟩, HQ.out.2.1, HQ.out.2.2⟩
            case measure => simp [intOf]; omega
          · obtain rfl : d = sn := by omega
            have HMn : Hid (∃ M : List Int, M.length = mn2 ∧ wr.ownsRow w3.heap.size 3 1 (.slice mo2 mn2 mc2) mn2 (ivals M) ∧ ∀ j, j < k + 1 → j < N → ∀ p ∈ bh j, p.1 ∈ M) := by
              refine ⟨_, HM2.out.1, HM2.out.2, fun j h1 h2 p hp => ?_⟩
              rcases (show j < k ∨ j = k by omega) with h3 | h3
              · exact List.mem_append.2 (.inl (HM3.out j h3 h2 p hp))
              · subst h3
                rw [List.take_of_length_le (by rw [HSp.out.2.2]; exact Nat.le_refl _)]
                exact List.mem_append.2 (.inr (List.mem_map.2 ⟨p, hp, rfl⟩))
            clear HM2 HS2
            go_wp2_with fail
            go_roundw
            case rel => exact ⟨k + 1, by omega, by go_num, ⟨mo2, mn2, mc2, rfl, by omega, HMn.out⟩, hbr2⟩
            case measure => simp [intOf]; omega
      · have hbe := HBn.out wr k hb1r hkN
        have HMn : Hid (∀ w', Below wr.heap.size wr w' → ∃ M : List Int, M.length = mn ∧ w'.ownsRow w3.heap.size 3 1 (.slice mo mn mc) mn (ivals M) ∧ ∀ j, j < k + 1 → j < N → ∀ p ∈ bh j, p.1 ∈ M) := fun w' h => by
          obtain ⟨M, h1, h2, h3⟩ := HMt.out
          exact ⟨M, h1, owns_later h2 h (Nat.le_refl _), fun j g1 g2 => h3 j (by omega) g2⟩
        clear HMt
        go_wp2_with (first | (go_at_call 10; refine hbe.mono ?_; rintro e w5 ⟨so, sn, sc, rfl, hb5⟩; have hb35 := hbr.trans (hb5.mono hbr.size)))
        go_roundw
        case rel => exact ⟨k + 1, by omega, by go_num, ⟨mo, mn, mc, rfl, by omega, HMn.out _ hb5⟩, hb35⟩
        case measure => simp [intOf]; omega
    · have hki : ¬ ((k : Int) < 4) := by omega
      have HFi : Hid (∀ w', Below wr.heap.size wr w' → ∀ q, q < nn → Calls Tryz.prog 11 #[.slice mo mn mc, .int .i64 (nx.getD q 0)] w' fun e w2 => e = .returned (.bool true) ∧ Below w'.heap.size w' w2) := fun w' h q hq => by
        obtain ⟨M, h1, h2, h3⟩ := HMt.out
        obtain ⟨j, g1, p, g2, g3⟩ := HM.out.2.2 q hq
        refine HHas.out w' _ M _ (by omega) ?_ (by rw [← g3]; exact h3 j (by omega) g1 p g2)
        have := owns_later h2 h (Nat.le_refl _)
        rw [← h1] at this ⊢
        exact intsV_of_owns this
      have hF := hbw3.trans (hbr.mono hbw3.size)
      have hnn0i : (0 : Int) < (nn : Int) := by omega
      clear HMt
      obtain ⟨nb, noff, rfl, HNb⟩ : ∃ nb noff, no = some ⟨nb, noff, none⟩ ∧ Hid (∀ w', Below w3.heap.size w3 w' → ∀ q, q < nn → w'.cell? ⟨nb, noff + q, none⟩ = some (.int .i64 (nx.getD q 0))) := by
        have hne : nx ≠ [] := by intro e; have := HM.out.1; rw [e] at this; simp at this; omega
        obtain ⟨ao', cap', e', h1⟩ := (HC3.out wr hbr).2
        injection e' with e' _ _
        subst e'
        obtain ⟨b', off', e1, _, _⟩ := h1 hne
        refine ⟨b', off', e1, fun w' h q hq => ?_⟩
        obtain ⟨ao2, cap2, e2, h2⟩ := (HC3.out w' h).2
        injection e2 with e2 _ _
        subst e2
        obtain ⟨b2, off2, e3, _, hat⟩ := h2 hne
        obtain ⟨rfl, rfl⟩ : b' = b2 ∧ off' = off2 := by
          rw [e1] at e3
          injection e3 with e3
          injection e3 with e4 e5 _
          exact ⟨e4, e5⟩
        exact hat q (by rw [HM.out.1]; exact hq)
      go_wp2_with fail
      generalize wr = wq at *
      go_loopw [18] (fun i wr2 => ∃ q : Nat, q ≤ nn ∧ i = .int .i64 q ∧ Below wq.heap.size wq wr2) (fun i _ => nn - (intOf i).toNat)
      case atStart => exact ⟨0, by omega, rfl, Below.refl _ _⟩
      case round =>
        obtain ⟨q, hq, rfl, hbq⟩ := hrel
        by_cases hqn : q < nn
        · have hcq := HNb.out wr (hbr.trans (hbq.mono hbr.size)) q hqn
          have hha := HFi.out wr hbq q hqn
          have hqi : (q : Int) < (nn : Int) := by omega
          generalize nx.getD q 0 = xq at *
          go_wp2_with (first | (go_at_call 11; refine hha.mono ?_; rintro e w6 ⟨rfl, hb6⟩))
          go_roundw
          case rel => exact ⟨q + 1, by omega, by go_num, hbq.trans (hb6.mono hbq.size)⟩
          case measure => simp [intOf]; omega
        · obtain rfl : q = nn := by omega
          go_wp2_with fail
          go_ret
          exact ⟨rfl, hF.trans (hbq.mono hF.size)⟩
end Go.Proofs.YtafbnmiipfkohaaGreatDoor
