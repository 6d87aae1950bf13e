import Derived.Test.YtobopjjmhginlaaGreatDoorPBeh0
namespace Go.Proofs.YtobopjjmhginlaaGreatDoor
open Go.ChangeShapes Go.WideShapes Go.ChangeAt Go.RowKit Go.Deep Go.Maps
open Terms Tm
set_option maxHeartbeats 6400000
set_option maxRecDepth 20000
variable {Pz : Nat -> Prop}
def BhPost (Pz : Nat -> Prop) (w0 w : World) (B bs bl n : Nat) (va vr pv fv : Value) (m : Mo) (ps : List (List (Int × Int))) (l : List (Int × Int)) (ho : Option Addr) (hc : Nat) (code c : Int) (e : Ending) (w' : World) : Prop :=
  Sk bs bl w w' /\ Hid (SvOk Pz w0 w' B bs bl (n + 300000) va vr pv fv m ps l ho hc) /\ ((wcode m code = 0 /\ ∃ so sc, e = .returned (.tuple #[.slice so (behL m ps l code c).length sc, .int .i64 0]) /\ Hid (SpO w' w.heap.size (.slice so (behL m ps l code c).length sc) (behL m ps l code c))) \/ (wcode m code ≠ 0 /\ e = .returned (.tuple #[.slice none 0 0, .int .i64 (wcode m code)])))
theorem behind_in (w0 w : World) (B bs bl n : Nat) (va vr pv fv : Value) (m : Mo) (ps : List (List (Int × Int))) (l : List (Int × Int)) (ho : Option Addr) (hc : Nat) (code : Int) (c : Nat) (hI : -9223372036854775808 <= code /\ code <= 9223372036854775807) (hB : 0 < w0.heap.size) (hT : TabAt w0) (hV : TaskV w0 va vr pv fv m ps l) (hk : tkcode m ps l = 0) (hS : SvOk Pz w0 w B bs bl n va vr pv fv m ps l ho hc) (hn : n + 300000 < 1000000000000) (hcr : 0 <= code /\ code < prodTo m.vars m.vars.length) (hcN : c < 2 ^ (aheadL l).length) :
    Calls Tryz.prog 45 #[.pointer (some ⟨B, 0, none⟩), .agg #[.int .i64 code, .int .i64 (c : Int)]] w (BhPost Pz w0 w B bs bl n va vr pv fv m ps l ho hc code (c : Int)) := by
  obtain ⟨hp0, hl0⟩ := tk_zero hk; obtain ⟨hm0, _⟩ := pcode_m hp0; obtain ⟨_, _, _, _, h6⟩ := lcode_zero hl0; have hw := wcode_yes hm0 hcr; have hpr := ((mcode_vars hm0).prod (Nat.le_refl m.vars.length)).2; have hN64 : 2 ^ (aheadL l).length <= 64 := Nat.pow_le_pow_right (show 0 < 2 by decide) h6
  have hnn := nextL_len hm0 hcr; obtain ⟨W1, hW1⟩ : ∃ W1, W1 = w.alloc (.cells #[.int .i64 code, .int .i64 (c : Int)] 87) := ⟨_, rfl⟩
  have hb1 : Below w.heap.size w W1 := by rw [hW1]; exact (Below.refl _ _).alloc (Nat.le_refl _) _
  have hs1 : W1.cell? ⟨w.heap.size, 0, none⟩ = some (.int .i64 code) /\ W1.cell? ⟨w.heap.size, 1, none⟩ = some (.int .i64 (c : Int)) := by rw [hW1]; constructor <;> simp [go_sem]
  have hS1 := hS.below hb1; have hst := stateOf_any w0 W1 B bs bl n va vr pv fv m ps l ho hc code hI hB hT hV hk hS1 (by omega)
  have hst2 : Calls Tryz.prog 65 #[.pointer (some ⟨B, 0, none⟩), .int .i64 code] W1 fun e w' => ∃ lo lc no nc so sc, e = .returned (.tuple #[.agg #[.slice lo ps.length lc, .slice no (nextL m code).length nc, .slice so (2 ^ (aheadL l).length) sc], .int .i64 0]) /\ Hid (Sk bs bl w w' /\ SvOk Pz w0 w' B bs bl (n + 1) va vr pv fv m ps l ho hc /\ StOk Pz w' m ps l code (.agg #[.slice lo ps.length lc, .slice no (nextL m code).length nc, .slice so (2 ^ (aheadL l).length) sc])) /\ Hid (w'.cell? ⟨w.heap.size, 0, none⟩ = some (.int .i64 code) /\ w'.cell? ⟨w.heap.size, 1, none⟩ = some (.int .i64 (c : Int))) := hst.mono fun e w' ⟨h1, h2, h3⟩ => by
    rcases h3 with ⟨_, lo, lc, no, nc, so, sc, h4, h5⟩ | ⟨h4, _⟩
    · exact ⟨lo, lc, no, nc, so, sc, h4, ⟨(Sk.of hb1).trans h1, h2.out, h5.out⟩, h1.cell hS1.two hs1.1, h1.cell hS1.two hs1.2⟩
    · exact absurd hw h4
  have HSt : Hid (∀ (w' : World) (n' : Nat) (c' : Int), n' < 1000000000000 -> 0 <= c' /\ c' < prodTo m.vars m.vars.length -> SvOk Pz w0 w' B bs bl n' va vr pv fv m ps l ho hc -> Calls Tryz.prog 65 #[.pointer (some ⟨B, 0, none⟩), .int .i64 c'] w' fun e w'' => ∃ lo lc no nn2 nc so sc, e = .returned (.tuple #[.agg #[.slice lo ps.length lc, .slice no nn2 nc, .slice so (2 ^ (aheadL l).length) sc], .int .i64 0]) /\ Hid (Sk bs bl w' w'' /\ SvOk Pz w0 w'' B bs bl (n' + 1) va vr pv fv m ps l ho hc /\ StOk Pz w'' m ps l c' (.agg #[.slice lo ps.length lc, .slice no nn2 nc, .slice so (2 ^ (aheadL l).length) sc]))) := fun w' n' c' hn' hc' hS' => (stateOf_any w0 w' B bs bl n' va vr pv fv m ps l ho hc c' (by omega) hB hT hV hk hS' hn').mono fun e w'' ⟨h1, h2, h3⟩ => by
    rcases h3 with ⟨_, lo, lc, no, nc, so, sc, h4, h5⟩ | ⟨h4, _⟩
    · exact ⟨lo, lc, no, _, nc, so, sc, h4, h1, h2.out, h5.out⟩
    · exact absurd (wcode_yes hm0 hc') h4
  have HFo : Hid (∀ (w' : World) (n' d : Nat) (c' : Int) (lo no so lo2 no2 so2 : Option Addr) (lc nn nc sc lc2 nn2 nc2 sc2 : Nat), n' < 1000000000000 -> d < 2 ^ (aheadL l).length -> 0 <= c' /\ c' < prodTo m.vars m.vars.length -> SvOk Pz w0 w' B bs bl n' va vr pv fv m ps l ho hc -> StOk Pz w' m ps l code (.agg #[.slice lo ps.length lc, .slice no nn nc, .slice so (2 ^ (aheadL l).length) sc]) -> StOk Pz w' m ps l c' (.agg #[.slice lo2 ps.length lc2, .slice no2 nn2 nc2, .slice so2 (2 ^ (aheadL l).length) sc2]) -> Calls Tryz.prog 66 #[.pointer (some ⟨B, 0, none⟩), .agg #[.slice lo ps.length lc, .slice no nn nc, .slice so (2 ^ (aheadL l).length) sc], .int .i64 (c : Int), .agg #[.slice lo2 ps.length lc2, .slice no2 nn2 nc2, .slice so2 (2 ^ (aheadL l).length) sc2], .int .i64 (d : Int)] w' fun e w'' => e = .returned (.tuple #[.bool (folR l (letL m ps code) (c : Int) (letL m ps c') (d : Int)), .int .i64 0]) /\ Hid (Sk bs bl w' w'' /\ SvOk Pz w0 w'' B bs bl (n' + 1) va vr pv fv m ps l ho hc)) := fun w' n' d c' lo no so lo2 no2 so2 lc nn nc sc lc2 nn2 nc2 sc2 hn' hd hc' hS' hA hB' => by
    obtain ⟨_, _, _, _, _, _, e1, hx, _, _, _⟩ := hA; obtain ⟨_, _, _, _, _, _, e2, hy, _, hz, _⟩ := hB'; simp only [Value.agg.injEq, Array.mk.injEq, List.cons.injEq, Value.slice.injEq, and_true, true_and] at e1 e2; obtain ⟨⟨rfl, rfl⟩, ⟨rfl, rfl, rfl⟩, rfl, rfl⟩ := e1; obtain ⟨⟨rfl, rfl⟩, ⟨rfl, rfl, rfl⟩, rfl, rfl⟩ := e2
    exact (follows_any w0 w' B bs bl n' va vr pv fv m ps l ho hc (letL m ps code) (letL m ps c') c d _ _ _ _ _ _ _ _ _ _ _ _ _ _ hB hT hV hk hS' hn' hx hy hz (tk_let hk hcr).2 (tk_let hk hc').2 hcN hd).mono fun e w'' ⟨h1, h2, h3⟩ => ⟨h1, h2, h3.out⟩
  have HCl : Hid (∀ (w' : World) (n' : Nat), SvOk Pz w0 w' B bs bl n' va vr pv fv m ps l ho hc -> Calls Tryz.prog 43 #[.pointer (some ⟨B, 0, none⟩)] w' fun e w'' => e = .returned (.int .i64 ((2 ^ (aheadL l).length : Nat) : Int)) /\ w'' = w') := fun w' n' h => claims_any B _ _ _ _ ho _ hc bs bl w' h6 h.box
  have HNx : Hid (∀ i, i < (nextL m code).length -> 0 <= (nextL m code).getD i 0 /\ (nextL m code).getD i 0 < prodTo m.vars m.vars.length) := fun i hi => nextL_st hm0 hcr (by rw [List.getD_eq_getElem?_getD, List.getElem?_eq_getElem hi]; exact List.getElem_mem hi)
  have HBt : Hid (∀ i, behTo m ps l code (c : Int) (i + 1) = behTo m ps l code (c : Int) i ++ foTo l (letL m ps code) (c : Int) (letL m ps ((nextL m code).getD i 0)) ((nextL m code).getD i 0) (2 ^ (aheadL l).length)) := fun _ => rfl
  have HB0 : Hid (behTo m ps l code (c : Int) 0 = []) := rfl; have HBl : Hid (∀ i, (behTo m ps l code (c : Int) i).length <= i * 64) := behTo_len hN64 code (c : Int)
  have HInt : Hid (∀ (w' : World) (lo no so : Option Addr) (lc nc sc : Nat), StOk Pz w' m ps l code (.agg #[.slice lo ps.length lc, .slice no (nextL m code).length nc, .slice so (2 ^ (aheadL l).length) sc]) -> ∀ i, i < (nextL m code).length -> ∃ b off, no = some ⟨b, off, none⟩ /\ w'.cell? ⟨b, off + i, none⟩ = some (.int .i64 ((nextL m code).getD i 0))) := fun w' lo no so lc nc sc hA i hi => by
    obtain ⟨_, _, _, _, _, _, e1, _, hx, _, _⟩ := hA; simp only [Value.agg.injEq, Array.mk.injEq, List.cons.injEq, Value.slice.injEq, and_true, true_and] at e1; obtain ⟨⟨rfl, rfl⟩, ⟨rfl, rfl⟩, rfl, rfl⟩ := e1; obtain ⟨ao, cap, e2, h1⟩ := hx
    injection e2 with e2 _ _
    subst e2; obtain ⟨b, off, rfl, _, hat⟩ := h1 (by intro e; rw [e] at hi; simp at hi)
    exact ⟨b, off, rfl, hat i hi⟩
  have hw0 : w0.heap.size <= w.heap.size := hS.bel.size; have hBlt : B < w.heap.size := hS.box.lt; unfold BhPost behL; have HW : Hid (wcode m code = 0) := hw; generalize (nextL m code).length = nn at *; generalize behTo m ps l code (c : Int) = bt at *; generalize m.vars.length = vn at *; generalize hpn : ps.length = pn at *; generalize 2 ^ (aheadL l).length = N at *
  clear hst hS hS1 hT hV hk hp0 hl0 hm0 h6 hw hpn hs1 hcN; subst hW1
  go_enter Tryz.func45, Tryz.ntmps45
  go_wp2_with (first | (go_at_call 65; refine hst2.mono ?_; rintro e w2 ⟨lo, lc, no, nc, so, sc, rfl, HR, HC⟩))
  obtain ⟨hsk2, hsv2, hso2⟩ := HR.out; obtain ⟨hc0, hc1⟩ := HC.out; have hb2 : Below w2.heap.size w2 (w2.alloc (.cells #[.slice lo pn lc, .slice no nn nc, .slice so N sc] 138)) := (Below.refl _ _).alloc (Nat.le_refl _) _; have hbx := Bx3.new w2 (.slice lo pn lc) (.slice no nn nc) (.slice so N sc)
  have hzb : (w2.alloc (.cells #[.slice lo pn lc, .slice no nn nc, .slice so N sc] 138)).heap.size = w2.heap.size + 1 := by simp
  have hskb := hsk2.trans (Sk.of (bs := bs) (bl := bl) hb2); have hsvb := hsv2.below hb2; have hsob := hso2.below hb2; have hsz2 := hsk2.size; have hcb1 : (w2.alloc (.cells #[.slice lo pn lc, .slice no nn nc, .slice so N sc] 138)).cell? ⟨w.heap.size, 1, none⟩ = some (.int .i64 (c : Int)) := (hb2.cell (p := ⟨w.heap.size, 1, none⟩) (World.block_lt_of_cell? _ _ hc1)).trans hc1
  generalize w2.alloc (.cells #[.slice lo pn lc, .slice no nn nc, .slice so N sc] 138) = Wb at *; have htw := hsvb.two; have HTw : Hid (TwoMaps Wb bs bl) := htw; have HSob : Hid (∀ w', Sk bs bl Wb w' -> StOk Pz w' m ps l code (.agg #[.slice lo pn lc, .slice no nn nc, .slice so N sc])) := fun w' h => hsob.sk h htw
  have HBxb : Hid (∀ w', Sk bs bl Wb w' -> (w'.cell? ⟨w2.heap.size, 0, none⟩ = some (.slice lo pn lc) /\ w'.cell? ⟨w2.heap.size, 1, none⟩ = some (.slice no nn nc) /\ w'.cell? ⟨w2.heap.size, 2, none⟩ = some (.slice so N sc)) /\ w'.cell? ⟨w.heap.size, 1, none⟩ = some (.int .i64 (c : Int))) := fun w' h => ⟨(hbx.sk h htw).1, h.cell htw hcb1⟩
  have HSvb : Hid (SvOk Pz w0 Wb B bs bl (n + 1) va vr pv fv m ps l ho hc) := hsvb; have HSkb : Hid (Sk bs bl w Wb) := hskb; clear hst2 HR HC hsk2 hsv2 hso2 hc0 hc1 hb2 hbx hskb hsvb hsob hcb1 htw
  go_loopw [8, 29] (fun u i wr => ∃ k : Nat, k <= nn /\ i = .int .i64 k /\ (∃ po pk pc, u = .slice po pk pc /\ pk <= k * 64 /\ Hid ((bt k).length = pk /\ SpO wr Wb.heap.size (.slice po pk pc) (bt k))) /\ Hid (Sk bs bl Wb wr /\ SvOk Pz w0 wr B bs bl (n + 1 + k * 65) va vr pv fv m ps l ho hc)) (fun _ i _ => nn - (intOf i).toNat)
  case atStart => exact ⟨0, Nat.zero_le _, rfl, ⟨none, 0, 0, rfl, Nat.zero_le _, by rw [HB0.out]; rfl, by rw [HB0.out]; exact SpO.nil _ _⟩, Sk.refl _ _ _, HSvb.out⟩
  case round =>
    obtain ⟨k, hkn, rfl, ⟨po, pk, pc, rfl, hpk, HSp⟩, HSS⟩ := hrel
    by_cases hlt : k < nn
    · obtain ⟨hskr, hsvr⟩ := HSS.out
      obtain ⟨nb, noff, rfl, hcell⟩ := HInt.out wr lo no so lc nc sc (HSob.out wr hskr) k hlt; have hin := HNx.out k hlt; have hst := HSt.out wr (n + 1 + k * 65) _ (by omega) hin hsvr
      have hki : (k : Int) < (nn : Int) := by omega
      have HBk := (show Hid _ from HBt.out k)
      have HSpk : Hid (∀ w', Sk bs bl wr w' -> SpO w' Wb.heap.size (.slice po pk pc) (bt k)) := fun w' h => HSp.out.2.sk h hsvr.two
      have HSl : Hid ((bt k).length = pk) := HSp.out.1
      have HFk : Hid (∀ (w' : World) (n' d : Nat) (lo2 no2 so2 : Option Addr) (lc2 nn2 nc2 sc2 : Nat), n' < 1000000000000 -> d < N -> SvOk Pz w0 w' B bs bl n' va vr pv fv m ps l ho hc -> Sk bs bl Wb w' -> StOk Pz w' m ps l ((nextL m code).getD k 0) (.agg #[.slice lo2 pn lc2, .slice no2 nn2 nc2, .slice so2 N sc2]) -> Calls Tryz.prog 66 #[.pointer (some ⟨B, 0, none⟩), .agg #[.slice lo pn lc, .slice (some ⟨nb, noff, none⟩) nn nc, .slice so N sc], .int .i64 (c : Int), .agg #[.slice lo2 pn lc2, .slice no2 nn2 nc2, .slice so2 N sc2], .int .i64 (d : Int)] w' fun e w'' => e = .returned (.tuple #[.bool (folR l (letL m ps code) (c : Int) (letL m ps ((nextL m code).getD k 0)) (d : Int)), .int .i64 0]) /\ Hid (Sk bs bl w' w'' /\ SvOk Pz w0 w'' B bs bl (n' + 1) va vr pv fv m ps l ho hc)) := fun w' n' d lo2 no2 so2 lc2 nn2 nc2 sc2 h1 h2 h3 h4 h5 => HFo.out w' n' d _ lo _ so lo2 no2 so2 lc nn nc sc lc2 nn2 nc2 sc2 h1 h2 hin h3 (HSob.out w' h4) h5
      have HF0 : Hid (foTo l (letL m ps code) (c : Int) (letL m ps ((nextL m code).getD k 0)) ((nextL m code).getD k 0) 0 = []) := rfl
      have HFS : Hid (∀ d : Nat, foTo l (letL m ps code) (c : Int) (letL m ps ((nextL m code).getD k 0)) ((nextL m code).getD k 0) (d + 1) = if folR l (letL m ps code) (c : Int) (letL m ps ((nextL m code).getD k 0)) (d : Int) = true then foTo l (letL m ps code) (c : Int) (letL m ps ((nextL m code).getD k 0)) ((nextL m code).getD k 0) d ++ [((nextL m code).getD k 0, (d : Int))] else foTo l (letL m ps code) (c : Int) (letL m ps ((nextL m code).getD k 0)) ((nextL m code).getD k 0) d) := fun _ => rfl
      have HFl : Hid (∀ d, (foTo l (letL m ps code) (c : Int) (letL m ps ((nextL m code).getD k 0)) ((nextL m code).getD k 0) d).length <= d) := foTo_len _ _ _ _ _
      have HStk : Hid (∀ (w' w'' : World) (v : Value), StOk Pz w' m ps l ((nextL m code).getD k 0) v -> TwoMaps w' bs bl -> Sk bs bl w' w'' -> StOk Pz w'' m ps l ((nextL m code).getD k 0) v) := fun w' w'' v h1 h2 h3 => h1.sk h3 h2
      have HStg : Hid (∀ (w' w'' : World) (v : Value) (own : Option Nat), StOk Pz w' m ps l ((nextL m code).getD k 0) v -> w'.grownBy w'' own -> (∀ g, own = some g -> ∃ cs fr, w'.heap[g]? = some (.cells cs 87 fr)) -> StOk Pz w'' m ps l ((nextL m code).getD k 0) v) := fun w' w'' v own h1 h2 h3 => h1.grown h2 h3
      have HStb : Hid (∀ (w' : World) (v : Value) (o : Obj), StOk Pz w' m ps l ((nextL m code).getD k 0) v -> StOk Pz (w'.alloc o) m ps l ((nextL m code).getD k 0) v) := fun w' v o h1 => h1.below ((Below.refl _ _).alloc (Nat.le_refl _) o)
      generalize foTo l (letL m ps code) (c : Int) (letL m ps ((nextL m code).getD k 0)) ((nextL m code).getD k 0) = ft at *; generalize hfr : (fun d : Nat => folR l (letL m ps code) (c : Int) (letL m ps ((nextL m code).getD k 0)) (d : Int)) = fr at *
      have HFr : Hid (∀ d : Nat, folR l (letL m ps code) (c : Int) (letL m ps ((nextL m code).getD k 0)) (d : Int) = fr d) := fun d => by rw [<- hfr]
      generalize hstk : (fun (w' : World) (v : Value) => StOk Pz w' m ps l ((nextL m code).getD k 0) v) = SK at *
      have HSK : Hid (∀ (w' : World) (v : Value), StOk Pz w' m ps l ((nextL m code).getD k 0) v ↔ SK w' v) := fun w' v => by rw [<- hstk]
      clear hfr hstk
      have hst' : Calls Tryz.prog 65 #[.pointer (some ⟨B, 0, none⟩), .int .i64 ((nextL m code).getD k 0)] wr fun e w'' => ∃ lo lc no nn2 nc so sc, e = .returned (.tuple #[.agg #[.slice lo pn lc, .slice no nn2 nc, .slice so N sc], .int .i64 0]) /\ Hid (Sk bs bl wr w'' /\ SvOk Pz w0 w'' B bs bl (n + 1 + k * 65 + 1) va vr pv fv m ps l ho hc /\ SK w'' (.agg #[.slice lo pn lc, .slice no nn2 nc, .slice so N sc])) := hst.mono fun e w'' ⟨a1, a2, a3, a4, a5, a6, a7, h1, h2⟩ => ⟨a1, a2, a3, a4, a5, a6, a7, h1, h2.out.1, h2.out.2.1, (HSK.out _ _).1 h2.out.2.2⟩
      clear hst HInt HSt HNx HBt HB0; generalize (nextL m code).getD k 0 = cd at *; clear hsvr HSp
      go_wp2_with (first | (go_at_call 65; refine hst'.mono ?_; rintro e w3 ⟨lo2, lc2, no2, nn2, nc2, so2, sc2, rfl, HR3⟩; have hcl := HCl.out _ _ (HR3.out.2.1.below ((Below.refl w3.heap.size w3).alloc (Nat.le_refl _) (.cells #[.slice lo2 pn lc2, .slice no2 nn2 nc2, .slice so2 N sc2] 138)))) | (go_at_call 43; refine hcl.mono ?_; rintro e w4 ⟨rfl, hw4⟩))
      have hbA : Below w3.heap.size w3 (w3.alloc (.cells #[.slice lo2 pn lc2, .slice no2 nn2 nc2, .slice so2 N sc2] 138)) := (Below.refl _ _).alloc (Nat.le_refl _) _
      have HIn : Hid (SpO (w3.alloc (.cells #[.slice lo2 pn lc2, .slice no2 nn2 nc2, .slice so2 N sc2] 138)) Wb.heap.size (.slice po pk pc) (bt k) /\ Sk bs bl Wb (w3.alloc (.cells #[.slice lo2 pn lc2, .slice no2 nn2 nc2, .slice so2 N sc2] 138)) /\ SvOk Pz w0 (w3.alloc (.cells #[.slice lo2 pn lc2, .slice no2 nn2 nc2, .slice so2 N sc2] 138)) B bs bl (n + 1 + k * 65 + 1) va vr pv fv m ps l ho hc /\ SK (w3.alloc (.cells #[.slice lo2 pn lc2, .slice no2 nn2 nc2, .slice so2 N sc2] 138)) (.agg #[.slice lo2 pn lc2, .slice no2 nn2 nc2, .slice so2 N sc2]) /\ Bx3 (w3.alloc (.cells #[.slice lo2 pn lc2, .slice no2 nn2 nc2, .slice so2 N sc2] 138)) w3.heap.size (.slice lo2 pn lc2) (.slice no2 nn2 nc2) (.slice so2 N sc2)) :=
        ⟨(HSpk.out w3 HR3.out.1).later hbA (Nat.le_refl _), (hskr.trans HR3.out.1).trans (Sk.of hbA), HR3.out.2.1.below hbA, (HSK.out _ _).1 (HStb.out _ _ _ ((HSK.out _ _).2 HR3.out.2.2)), Bx3.new _ _ _ _⟩
      clear HR3 HSpk hst' hcl hbA HStb; generalize w3.alloc (.cells #[.slice lo2 pn lc2, .slice no2 nn2 nc2, .slice so2 N sc2] 138) = Wc at *; have HSKk : Hid (∀ (w' w'' : World) (v : Value), SK w' v -> TwoMaps w' bs bl -> Sk bs bl w' w'' -> SK w'' v) := fun w' w'' v h1 h2 h3 => (HSK.out _ _).1 (HStk.out w' w'' v ((HSK.out _ _).2 h1) h2 h3)
      have HSKg : Hid (∀ (w' w'' : World) (v : Value) (own : Option Nat), SK w' v -> w'.grownBy w'' own -> (∀ g, own = some g -> ∃ cs fr, w'.heap[g]? = some (.cells cs 87 fr)) -> SK w'' v) := fun w' w'' v own h1 h2 h3 => (HSK.out _ _).1 (HStg.out w' w'' v own ((HSK.out _ _).2 h1) h2 h3)
      have HSKa : Hid (∀ (w' : World) (v : Value) (o : Obj), SK w' v -> SK (w'.alloc o) v) := fun w' v o h1 => HSKg.out w' (w'.alloc o) v none h1 (World.grownBy_alloc w' o none) (fun g e => by simp at e)
      have HFk2 : Hid (∀ (w' : World) (n' d : Nat), n' < 1000000000000 -> d < N -> SvOk Pz w0 w' B bs bl n' va vr pv fv m ps l ho hc -> Sk bs bl Wb w' -> SK w' (.agg #[.slice lo2 pn lc2, .slice no2 nn2 nc2, .slice so2 N sc2]) -> Calls Tryz.prog 66 #[.pointer (some ⟨B, 0, none⟩), .agg #[.slice lo pn lc, .slice (some ⟨nb, noff, none⟩) nn nc, .slice so N sc], .int .i64 (c : Int), .agg #[.slice lo2 pn lc2, .slice no2 nn2 nc2, .slice so2 N sc2], .int .i64 (d : Int)] w' fun e w'' => e = .returned (.tuple #[.bool (fr d), .int .i64 0]) /\ Hid (Sk bs bl w' w'' /\ SvOk Pz w0 w'' B bs bl (n' + 1) va vr pv fv m ps l ho hc)) := fun w' n' d h1 h2 h3 h4 h5 => by
        have := HFk.out w' n' d lo2 no2 so2 lc2 nn2 nc2 sc2 h1 h2 h3 h4 ((HSK.out _ _).2 h5); rw [HFr.out] at this; exact this
      have HFS2 : Hid (∀ d : Nat, ft (d + 1) = if fr d = true then ft d ++ [(cd, (d : Int))] else ft d) := fun d => by
        have := HFS.out d; rw [HFr.out] at this; exact this
      clear HFk HFS HFr HSK HStk HStg HFo
      go_loopw [8, 44] (fun u i wr2 => ∃ d : Nat, d <= N /\ i = .int .i64 d /\ (∃ po pk2 pc, u = .slice po pk2 pc /\ pk2 <= pk + d /\ Hid ((bt k ++ ft d).length = pk2 /\ SpO wr2 Wb.heap.size (.slice po pk2 pc) (bt k ++ ft d))) /\ Hid (Sk bs bl Wb wr2 /\ SvOk Pz w0 wr2 B bs bl (n + 1 + k * 65 + 1 + d) va vr pv fv m ps l ho hc /\ SK wr2 (.agg #[.slice lo2 pn lc2, .slice no2 nn2 nc2, .slice so2 N sc2]) /\ Bx3 wr2 w3.heap.size (.slice lo2 pn lc2) (.slice no2 nn2 nc2) (.slice so2 N sc2))) (fun _ i _ => N - (intOf i).toNat)
      case atStart => exact ⟨0, Nat.zero_le _, rfl, ⟨po, pk, pc, rfl, Nat.le_refl _, by rw [HF0.out, List.append_nil]; exact HSl.out, by rw [HF0.out, List.append_nil]; exact HIn.out.1⟩, HIn.out.2⟩
      case round =>
        obtain ⟨d, hdN, rfl, ⟨po2, pk2, pc2, rfl, hpk2, HSp2⟩, HS2⟩ := hrel
        by_cases hd : d < N
        · obtain ⟨hsk2, hsv2, hSK2, hbx2⟩ := HS2.out
          have hfo := HFk2.out _ (n + 1 + k * 65 + 1 + d) d (by omega) hd hsv2 hsk2 hSK2
          obtain ⟨⟨x0, x1, x2⟩, x3⟩ := HBxb.out _ hsk2; obtain ⟨⟨z0, z1, z2⟩, _⟩ := id hbx2; have htw2 := hsv2.two; have HE := (show Hid _ from HFS2.out d)
          have HNx2 : Hid (∀ w', Sk bs bl wr w' -> SpO w' Wb.heap.size (.slice po2 pk2 pc2) (bt k ++ ft d) /\ Sk bs bl Wb w' /\ SK w' (.agg #[.slice lo2 pn lc2, .slice no2 nn2 nc2, .slice so2 N sc2]) /\ Bx3 w' w3.heap.size (.slice lo2 pn lc2) (.slice no2 nn2 nc2) (.slice so2 N sc2)) := fun w' h => ⟨HSp2.out.2.sk h htw2, hsk2.trans h, HSKk.out _ _ _ hSK2 htw2 h, hbx2.sk h htw2⟩
          have HSl2 : Hid ((bt k ++ ft d).length = pk2) := HSp2.out.1; clear hskr
          cases hfd : fr d with
          | false =>
            rw [hfd] at hfo HE; have HE2 : Hid (ft (d + 1) = ft d) := by have := HE.out; rw [if_neg (by simp)] at this; exact this
            clear HE hsv2 hSK2 hbx2 HSp2 HS2 hfd
            go_wp2_with (first | (go_at_call 66; refine hfo.mono ?_; rintro e w5 ⟨rfl, HR5⟩))
            obtain ⟨q1, q2, q3, q4⟩ := HNx2.out _ HR5.out.1
            have HQ := (show Hid (SpO w5 Wb.heap.size (.slice po2 pk2 pc2) (bt k ++ ft d) /\ Sk bs bl Wb w5 /\ SvOk Pz w0 w5 B bs bl (n + 1 + k * 65 + 1 + d + 1) va vr pv fv m ps l ho hc /\ SK w5 (.agg #[.slice lo2 pn lc2, .slice no2 nn2 nc2, .slice so2 N sc2]) /\ Bx3 w5 w3.heap.size (.slice lo2 pn lc2) (.slice no2 nn2 nc2) (.slice so2 N sc2)) from ⟨q1, q2, HR5.out.2, q3, q4⟩)
            clear q1 q2 q3 q4 HR5
            go_roundw
            case rel => exact ⟨d + 1, by omega, by go_num, ⟨po2, pk2, pc2, rfl, by omega, by rw [HE2.out]; exact HSl2.out, by rw [HE2.out]; exact HQ.out.1⟩, HQ.out.2⟩
            case measure => simp [intOf]; omega
          | true =>
            rw [hfd] at hfo HE; have HE2 : Hid (ft (d + 1) = ft d ++ [(cd, (d : Int))]) := by have := HE.out; rw [if_pos rfl] at this; exact this
            clear HE hsv2 hSK2 hbx2 HSp2 HS2 hfd
            go_wp2_with (first | (go_at_call 66; refine hfo.mono ?_; rintro e w5 ⟨rfl, HR5⟩; obtain ⟨q1, q2, q3, q4⟩ := HNx2.out _ HR5.out.1; have HQ := (show Hid (SpO w5 Wb.heap.size (.slice po2 pk2 pc2) (bt k ++ ft d) /\ Sk bs bl Wb w5 /\ SvOk Pz w0 w5 B bs bl (n + 1 + k * 65 + 1 + d + 1) va vr pv fv m ps l ho hc /\ SK w5 (.agg #[.slice lo2 pn lc2, .slice no2 nn2 nc2, .slice so2 N sc2]) /\ Bx3 w5 w3.heap.size (.slice lo2 pn lc2) (.slice no2 nn2 nc2) (.slice so2 N sc2)) from ⟨q1, q2, HR5.out.2, q3, q4⟩); clear q1 q2 q3 q4 HR5; have hsp5 := HQ.out.1; have hsz5 := HQ.out.2.1.size) | (at_builtin; refine push_sp cd (d : Int) rfl _ _ rfl Wb.heap.size pk2 pc2 po2 (bt k ++ ft d) HSl2.out rfl hsp5 rfl (by omega) hsz5 ?_; intro vo6 cap6 w6 ho6 hb6 hg6))
            have hown := hsp5.own (.cells #[.int .i64 cd, .int .i64 (d : Int)] 87)
            have HQ6 : Hid (SpO w6 Wb.heap.size (.slice vo6 (pk2 + 1) cap6) (bt k ++ ft d ++ [(cd, (d : Int))]) /\ Sk bs bl Wb w6 /\ SvOk Pz w0 w6 B bs bl (n + 1 + k * 65 + 1 + d + 1) va vr pv fv m ps l ho hc /\ SK w6 (.agg #[.slice lo2 pn lc2, .slice no2 nn2 nc2, .slice so2 N sc2]) /\ Bx3 w6 w3.heap.size (.slice lo2 pn lc2) (.slice no2 nn2 nc2) (.slice so2 N sc2)) := by
              have ha : Below w5.heap.size w5 (w5.alloc (.cells #[.int .i64 cd, .int .i64 (d : Int)] 87)) := (Below.refl _ _).alloc (Nat.le_refl _) _; refine ⟨ho6, HQ.out.2.1.after hb6, (HQ.out.2.2.1.below ha).spots hg6 (fun g e => ?_), HSKg.out _ _ _ _ (HSKa.out _ _ _ HQ.out.2.2.2.1) hg6 (fun g e => (hown g e).2), (HQ.out.2.2.2.2.below ha).grown hg6 (fun g e => (hown g e).2)⟩
              obtain ⟨h1, h2⟩ := hown g e; have := HSkb.out.size; exact ⟨by omega, by omega, h2⟩
            clear hown ho6 hb6 hg6 hsp5 HQ
            go_wp2_with fail
            go_roundw
            case rel => exact ⟨d + 1, by omega, by go_num, ⟨vo6, pk2 + 1, cap6, rfl, by omega, by rw [HE2.out, <- List.append_assoc, List.length_append, HSl2.out]; rfl, by rw [HE2.out, <- List.append_assoc]; exact HQ6.out.1⟩, HQ6.out.2⟩
            case measure => simp [intOf]; omega
        · obtain rfl : d = N := by omega
          have HSl2 : Hid ((bt (k + 1)).length = pk2 /\ SpO wr Wb.heap.size (.slice po2 pk2 pc2) (bt (k + 1))) := by rw [HBk.out]; exact HSp2.out
          have HS3 : Hid (Sk bs bl Wb wr /\ SvOk Pz w0 wr B bs bl (n + 1 + (k + 1) * 65) va vr pv fv m ps l ho hc) := ⟨HS2.out.1, HS2.out.2.1.mono (by omega)⟩
          clear HSp2 HS2
          go_wp2_with fail
          go_roundw
          case rel => exact ⟨k + 1, by omega, by go_num, ⟨po2, pk2, pc2, rfl, by omega, HSl2.out.1, HSl2.out.2⟩, HS3⟩
          case measure => simp [intOf]; omega
    · obtain rfl : k = nn := by omega
      have HSl : Hid ((bt k).length = pk) := HSp.out.1; have HSpp : Hid (SpO wr Wb.heap.size (.slice po pk pc) (bt k)) := HSp.out.2; have hwb : w.heap.size <= Wb.heap.size := HSkb.out.size; clear HSp
      go_wp2_with fail
      go_ret2
      exact ⟨HSkb.out.trans HSS.out.1, HSS.out.2.mono (by omega), .inl ⟨HW.out, po, pc, by rw [HSl.out]; rfl, by rw [HSl.out]; exact owns_mono HSpp.out hwb⟩⟩
end Go.Proofs.YtobopjjmhginlaaGreatDoor
