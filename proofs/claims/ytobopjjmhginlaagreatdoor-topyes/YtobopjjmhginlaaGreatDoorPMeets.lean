import Derived.Test.YtobopjjmhginlaaGreatDoorPBeh0
import Derived.Test.YtobopjjmhginlaaGreatDoorLogicMeet
namespace Go.Proofs.YtobopjjmhginlaaGreatDoor
open Go.ChangeShapes Go.WideShapes Go.ChangeAt Go.RowKit Go.Deep Go.Maps
open Terms Tm
set_option maxHeartbeats 6400000
set_option maxRecDepth 20000
variable {Pz : Nat -> Prop}
theorem meets_in (w0 w : World) (B bs bl n : Nat) (va vr pv fv : Value) (m : Mo) (ps : List (List (Int × Int))) (l : List (Int × Int)) (ho : Option Addr) (hc : Nat) (code : Int) (c : Nat) (hI : -9223372036854775808 <= code /\ code <= 9223372036854775807) (hB : 0 < w0.heap.size) (hT : TabAt w0) (hV : TaskV w0 va vr pv fv m ps l) (hk : tkcode m ps l = 0) (hS : SvOk Pz w0 w B bs bl n va vr pv fv m ps l ho hc) (hn : n + 300000 < 1000000000000) (hcr : 0 <= code /\ code < prodTo m.vars m.vars.length) (hcN : c < 2 ^ (aheadL l).length) :
    Calls Tryz.prog 46 #[.pointer (some ⟨B, 0, none⟩), .agg #[.int .i64 code, .int .i64 (c : Int)]] w fun e w' => e = .returned (.tuple #[.int .i64 (metN l (letL m ps code) (c : Int)), .int .i64 0]) /\ Sk bs bl w w' /\ Hid (SvOk Pz w0 w' B bs bl (n + 1) va vr pv fv m ps l ho hc) := by
  obtain ⟨hp0, hl0⟩ := tk_zero hk; obtain ⟨hm0, _⟩ := pcode_m hp0; have hw := wcode_yes hm0 hcr; obtain ⟨fo, fc, rfl, _⟩ := id hV.fo
  have htc : tcode l (letL m ps code) (c : Int) = 0 := by
    refine tcode_ok (by rw [(tk_let hk hcr).2]; exact hl0) fun hno => ?_
    unfold ClaimNo at hno; have : ((2 ^ (aheadL l).length : Nat) : Int) = (2 : Int) ^ (aheadL l).length := by push_cast; rfl
    rcases hno with hno | hno
    · omega
    · rw [<- this] at hno; omega
  obtain ⟨W1, hW1⟩ : ∃ W1, W1 = w.alloc (.cells #[.int .i64 code, .int .i64 (c : Int)] 87) := ⟨_, rfl⟩
  have hb1 : Below w.heap.size w W1 := by rw [hW1]; exact (Below.refl _ _).alloc (Nat.le_refl _) _
  have hs1 : W1.cell? ⟨w.heap.size, 0, none⟩ = some (.int .i64 code) /\ W1.cell? ⟨w.heap.size, 1, none⟩ = some (.int .i64 (c : Int)) := by rw [hW1]; constructor <;> simp [go_sem]
  have hS1 := hS.below hb1; have hst := stateOf_any w0 W1 B bs bl n va vr pv (.slice fo l.length fc) m ps l ho hc code hI hB hT hV hk hS1 (by omega)
  have hst2 : Calls Tryz.prog 65 #[.pointer (some ⟨B, 0, none⟩), .int .i64 code] W1 fun e w' => ∃ lo lc no nn nc so sn sc, e = .returned (.tuple #[.agg #[.slice lo ps.length lc, .slice no nn nc, .slice so sn sc], .int .i64 0]) /\ Hid (∀ w2, Below w'.heap.size w' w2 -> Sk bs bl w w2 /\ SvOk Pz w0 w2 B bs bl (n + 1) va vr pv (.slice fo l.length fc) m ps l ho hc /\ w2.cell? ⟨B, 3, none⟩ = some (.slice fo l.length fc) /\ w2.cell? ⟨w.heap.size, 0, none⟩ = some (.int .i64 code) /\ w2.cell? ⟨w.heap.size, 1, none⟩ = some (.int .i64 (c : Int)) /\ Calls Tryz.prog 67 #[.slice fo l.length fc, .slice lo ps.length lc, .int .i64 (c : Int)] w2 fun e w3 => e = .returned (.tuple #[.int .i64 (metN l (letL m ps code) (c : Int)), .int .i64 0]) /\ Below w2.heap.size w2 w3) := hst.mono fun e w' ⟨h1, h2, h3⟩ => by
    rcases h3 with ⟨_, lo, lc, no, nc, so, sc, h4, h5⟩ | ⟨h4, _⟩
    · refine ⟨lo, lc, no, _, nc, so, _, sc, h4, fun w2 hb2 => ?_⟩
      have hsk := (h1.trans (Sk.of hb2)); have hS2 := h2.out.below hb2; obtain ⟨lo', lc', no', nc', so', sc', e5, hx, _⟩ := h5.out
      injection e5 with e5
      simp only [Array.mk.injEq, List.cons.injEq, and_true] at e5; rw [<- e5.1] at hx; have h0 := hS2.bel; have hme := lmeets_any (.slice fo l.length fc) (.slice lo ps.length lc) l (letL m ps code) (c : Int) w2 (Nat.lt_of_lt_of_le hB h0.size) (hT.below h0 hB) (hV.fo.below h0) (hx.below hb2); rw [htc] at hme
      exact ⟨(Sk.of hb1).trans hsk, hS2, hS2.box.c3, hsk.cell hS1.two hs1.1, hsk.cell hS1.two hs1.2, hme⟩
    · exact absurd hw h4
  clear hst hS hT hV hk hw hS1 htc hp0 hl0 hm0; have HW1 : Hid (W1 = w.alloc (.cells #[.int .i64 code, .int .i64 (c : Int)] 87)) := hW1; generalize metN l (letL m ps code) (c : Int) = mm at *; generalize ps.length = pn at *; generalize l.length = fn at *
  go_enter Tryz.func46, Tryz.ntmps46
  go_wp2_with (first | (go_at_call 65; rw [<- hW1]; refine hst2.mono ?_; rintro e w2 ⟨lo, lc, no, nn, nc, so, sn, sc, rfl, HR⟩))
  have hb2 : ∀ o, Below w2.heap.size w2 (w2.alloc o) := fun o => (Below.refl _ _).alloc (Nat.le_refl _) o
  generalize hw3 : w2.alloc (.cells #[.slice lo pn lc, .slice no nn nc, .slice so sn sc] 138) = w3 at *; have hb3 : Below w2.heap.size w2 w3 := by rw [<- hw3]; exact hb2 _
  have q0 : w3.cell? ⟨w2.heap.size, 0, none⟩ = some (.slice lo pn lc) := by rw [<- hw3]; simp [go_sem]
  have hlt3 : w2.heap.size < w3.heap.size := World.block_lt_of_cell? _ _ q0
  have HSF : Hid (∀ w', Below w3.heap.size w3 w' -> w'.cell? ⟨B, 3, none⟩ = some (.slice fo fn fc) /\ w'.cell? ⟨w2.heap.size, 0, none⟩ = some (.slice lo pn lc) /\ w'.cell? ⟨w.heap.size, 1, none⟩ = some (.int .i64 (c : Int))) := fun w' h => by
    obtain ⟨_, _, q3, _, q1, _⟩ := HR.out w' (hb3.trans (h.mono hb3.size)); exact ⟨q3, (h.cell (p := ⟨w2.heap.size, 0, none⟩) hlt3).trans q0, q1⟩
  have hB0 : Below w3.heap.size w3 w3 := Below.refl _ _; obtain ⟨_, _, _, _, _, hme⟩ := HR.out w3.drew hb3.drew; clear hw3 hb2 q0 hst2 hs1 hW1
  go_region_held3 (fun w' => w'.cell? ⟨B, 3, none⟩ = some (.slice fo fn fc) /\ w'.cell? ⟨w2.heap.size, 0, none⟩ = some (.slice lo pn lc) /\ w'.cell? ⟨w.heap.size, 1, none⟩ = some (.int .i64 (c : Int)))
    (first | exact HSF.out _ hb6 | exact HSF.out _ hB0.drew | exact HSF.out _ hB0)
    (first | (go_at_call 67; refine hme.mono ?_; rintro e w6 ⟨rfl, hb6'⟩; have hb6 := hB0.drew.trans (hb6'.mono hB0.drew.size)))
  go_wp2_with fail
  go_ret2
  obtain ⟨r1, r2, _⟩ := HR.out _ (hb3.trans (hb6.mono hb3.size)); exact ⟨rfl, r1, r2⟩
end Go.Proofs.YtobopjjmhginlaaGreatDoor
