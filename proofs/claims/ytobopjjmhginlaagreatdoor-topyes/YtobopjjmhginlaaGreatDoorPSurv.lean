import Derived.Test.YtobopjjmhginlaaGreatDoorPCheck
import Derived.Test.YtobopjjmhginlaaGreatDoorLogicAh
namespace Go.Proofs.YtobopjjmhginlaaGreatDoor
open Go.ChangeShapes Go.WideShapes Go.ChangeAt Go.RowKit Go.Deep
open Terms Tm
set_option maxHeartbeats 6400000
set_option maxRecDepth 20000
theorem tk_zero {m : Mo} {ps : List (List (Int × Int))} {l : List (Int × Int)} (h : tkcode m ps l = 0) : pcode m ps = 0 /\ lcode ps.length l = 0 := by
  unfold tkcode at h
  split at h
  · rename_i h1
    exact absurd h h1
  · rename_i h1
    exact ⟨by simpa using h1, h⟩
structure SurvAt (w : World) (B : Nat) (va vr pv fv av : Value) (bs bl : Nat) : Prop where
  lt : B < w.heap.size
  c0 : w.cell? ⟨B, 0, none⟩ = some va
  c1 : w.cell? ⟨B, 1, none⟩ = some vr
  c2 : w.cell? ⟨B, 2, none⟩ = some pv
  c3 : w.cell? ⟨B, 3, none⟩ = some fv
  c4 : w.cell? ⟨B, 4, none⟩ = some av
  c5 : w.cell? ⟨B, 5, none⟩ = some (.map (some bs))
  c6 : w.cell? ⟨B, 6, none⟩ = some (.map (some bl))
theorem SurvAt.later {w w' : World} {B : Nat} {va vr pv fv av : Value} {bs bl : Nat} (h : SurvAt w B va vr pv fv av bs bl) (hb : Below w.heap.size w w') : SurvAt w' B va vr pv fv av bs bl :=
  ⟨Nat.lt_of_lt_of_le h.lt hb.size, (hb.cell (p := ⟨B, 0, none⟩) h.lt).trans h.c0, (hb.cell (p := ⟨B, 1, none⟩) h.lt).trans h.c1, (hb.cell (p := ⟨B, 2, none⟩) h.lt).trans h.c2, (hb.cell (p := ⟨B, 3, none⟩) h.lt).trans h.c3, (hb.cell (p := ⟨B, 4, none⟩) h.lt).trans h.c4, (hb.cell (p := ⟨B, 5, none⟩) h.lt).trans h.c5, (hb.cell (p := ⟨B, 6, none⟩) h.lt).trans h.c6⟩
theorem SurvAt.new (w : World) (va vr pv fv av : Value) (t : TypeId) : SurvAt (((w.alloc (.map #[] 0)).alloc (.map #[] 0)).alloc (.cells #[va, vr, pv, fv, av, .map (some w.heap.size), .map (some (w.heap.size + 1))] t)) (w.heap.size + 2) va vr pv fv av w.heap.size (w.heap.size + 1) := by
  have e : w.heap.size + 2 = ((w.alloc (.map #[] 0)).alloc (.map #[] 0)).heap.size := by simp
  rw [e]; refine ⟨by simp, ?_, ?_, ?_, ?_, ?_, ?_, ?_⟩ <;> simp [go_sem]
theorem maps_new (w : World) (o : Obj) : (((w.alloc (.map #[] 0)).alloc (.map #[] 0)).alloc o).heap[w.heap.size]? = some (.map #[] 0) /\ (((w.alloc (.map #[] 0)).alloc (.map #[] 0)).alloc o).heap[w.heap.size + 1]? = some (.map #[] 0) := by
  have h1 := (MapKept.heap_alloc w (.map #[] 0)).1; have h2 := (MapKept.heap_alloc (w.alloc (.map #[] 0)) (.map #[] 0)).1; have b1 : Below (w.alloc (.map #[] 0)).heap.size (w.alloc (.map #[] 0)) (((w.alloc (.map #[] 0)).alloc (.map #[] 0)).alloc o) := ((Below.refl _ _).alloc (Nat.le_refl _) _).alloc (by simp) _
  have b2 : Below ((w.alloc (.map #[] 0)).alloc (.map #[] 0)).heap.size ((w.alloc (.map #[] 0)).alloc (.map #[] 0)) (((w.alloc (.map #[] 0)).alloc (.map #[] 0)).alloc o) := (Below.refl _ _).alloc (Nat.le_refl _) _; refine ⟨(b1.block _ (by simp)).trans h1, ?_⟩
  rw [World.size_alloc] at h2; exact (b2.block _ (by simp)).trans h2
def SurvPost (w : World) (va vr pv fv : Value) (l : List (Int × Int)) (e : Ending) (w' : World) : Prop :=
  ∃ n ao ac, e = .returned (.tuple #[.pointer (some ⟨n + 2, 0, none⟩), .int .i64 0]) /\ Below w.heap.size w w' /\ w.heap.size <= n /\ w'.heap.size = n + 3 /\ Hid (SurvAt w' (n + 2) va vr pv fv (.slice ao (aheadL l).length ac) n (n + 1)) /\ Hid (w'.ownsRow w.heap.size 3 1 (.slice ao (aheadL l).length ac) (aheadL l).length (ivals (aheadL l))) /\ Hid (w'.heap[n]? = some (.map #[] 0) /\ w'.heap[n + 1]? = some (.map #[] 0))
theorem surveyOf_ok (va vr pv fv : Value) (m : Mo) (ps : List (List (Int × Int))) (l : List (Int × Int)) (w : World) (hB : 0 < w.heap.size) (hT : TabAt w) (hV : TaskV w va vr pv fv m ps l) (hc : tkcode m ps l = 0) :
    Calls Tryz.prog 24 #[.agg #[va, vr, pv, fv]] w (SurvPost w va vr pv fv l) := by
  have hA : ∀ o, Below w.heap.size w (w.alloc o) := fun o => (Below.refl _ _).alloc (Nat.le_refl _) o
  obtain ⟨_, hl0⟩ := tk_zero hc; obtain ⟨ao, ac, rfl⟩ := hV.mo.1.shape; obtain ⟨ro, rc, rfl⟩ := hV.mo.2.shape; obtain ⟨po, pc, rfl⟩ := hV.ps.shape; obtain ⟨fo, fc, rfl, _⟩ := id hV.fo
  have HC : Hid (∀ w1, Below w.heap.size w w1 -> Calls Tryz.prog 39 #[.agg #[.slice ao m.vars.length ac, .slice ro m.rules.length rc, .slice po ps.length pc, .slice fo l.length fc]] w1 fun e w' => e = .returned (.int .i64 0) /\ Below w1.heap.size w1 w') := fun w1 h => by
    have := pcheck_any _ _ _ _ m ps l w1 (Nat.lt_of_lt_of_le hB h.size) (hT.below h hB) (hV.below h); rw [hc] at this; exact this
  have HL : Hid (∀ w1, Below w.heap.size w w1 -> Calls Tryz.prog 40 #[.slice fo l.length fc, .int .i64 (ps.length : Int)] w1 fun e w' => ∃ ho hc, e = .returned (.tuple #[.slice ho (aheadL l).length hc, .int .i64 0]) /\ Below w1.heap.size w1 w' /\ Hid (w'.ownsRow w1.heap.size 3 1 (.slice ho (aheadL l).length hc) (aheadL l).length (ivals (aheadL l)))) := fun w1 h => lahead_own _ l ps.length w1 (Nat.lt_of_lt_of_le hB h.size) (hT.below h hB) (hV.fo.below h) hl0
  unfold SurvPost; generalize ivals (aheadL l) = av at *; generalize (aheadL l).length = an at *; generalize m.vars.length = vn at *; generalize m.rules.length = rn at *; generalize ps.length = pn at *; generalize l.length = fn at *; clear hV hT hc hl0; have hp := HC.out _ (hA (.cells #[.slice ao vn ac, .slice ro rn rc, .slice po pn pc, .slice fo fn fc] 51))
  have HB : Hid (∀ w1, Below (w.heap.size + 1) (w.alloc (.cells #[.slice ao vn ac, .slice ro rn rc, .slice po pn pc, .slice fo fn fc] 51)) w1 -> w1.cell? ⟨w.heap.size, 0, none⟩ = some (.slice ao vn ac) /\ w1.cell? ⟨w.heap.size, 1, none⟩ = some (.slice ro rn rc) /\ w1.cell? ⟨w.heap.size, 2, none⟩ = some (.slice po pn pc) /\ w1.cell? ⟨w.heap.size, 3, none⟩ = some (.slice fo fn fc)) := fun w1 h => ⟨(h.cell (p := ⟨w.heap.size, 0, none⟩) (Nat.lt_succ_self _)).trans (by simp [go_sem]), (h.cell (p := ⟨w.heap.size, 1, none⟩) (Nat.lt_succ_self _)).trans (by simp [go_sem]), (h.cell (p := ⟨w.heap.size, 2, none⟩) (Nat.lt_succ_self _)).trans (by simp [go_sem]), (h.cell (p := ⟨w.heap.size, 3, none⟩) (Nat.lt_succ_self _)).trans (by simp [go_sem])⟩
  have hmm := @run_makeMap Tryz.prog
  go_enter Tryz.func24, Tryz.ntmps24
  go_wp2_with (first | (go_at_call 39; refine hp.mono ?_; rintro e w1 ⟨rfl, hb1⟩; have hbw := (hA _).trans (hb1.mono (hA _).size); have hq := HB.out w1 (by simpa using hb1); obtain ⟨k0, k1, k2, k3⟩ := hq; have hl := HL.out w1 hbw) | (go_at_call 40; refine hl.mono ?_; rintro e w2 ⟨ho, hc, rfl, hb2, HO⟩; have hbw2 := hbw.trans (hb2.mono hbw.size); obtain ⟨j0, j1, j2, j3⟩ := HB.out w2 (by have := hb1.trans (hb2.mono hb1.size); simpa using this)))
  go_ret2
  have hm1 : Below w.heap.size w ((w2.alloc (.map #[] 0)).alloc (.map #[] 0)) := (hbw2.alloc hbw2.size _).alloc (by have := hbw2.size; simp; omega) _
  refine ⟨w2.heap.size, ho, hc, by rfl, hm1.alloc hm1.size _, hbw2.size, by simp, SurvAt.new w2 _ _ _ _ _ _, ?_, ?_⟩
  · exact (((owns_mono HO.out hbw.size).alloc _).alloc _).alloc _
  · exact maps_new w2 _
theorem surveyOf_bad (va vr pv fv : Value) (m : Mo) (ps : List (List (Int × Int))) (l : List (Int × Int)) (w : World) (hB : 0 < w.heap.size) (hT : TabAt w) (hV : TaskV w va vr pv fv m ps l) (hc : tkcode m ps l ≠ 0) :
    Calls Tryz.prog 24 #[.agg #[va, vr, pv, fv]] w fun e w' => e = .returned (.tuple #[.pointer none, .int .i64 (tkcode m ps l)]) /\ Below w.heap.size w w' := by
  have hA : ∀ o, Below w.heap.size w (w.alloc o) := fun o => (Below.refl _ _).alloc (Nat.le_refl _) o
  obtain ⟨ao, ac, rfl⟩ := hV.mo.1.shape; obtain ⟨ro, rc, rfl⟩ := hV.mo.2.shape; obtain ⟨po, pc, rfl⟩ := hV.ps.shape; obtain ⟨fo, fc, rfl, _⟩ := id hV.fo; have hp := pcheck_any _ _ _ _ m ps l _ (Nat.lt_of_lt_of_le hB (hA (.cells #[.slice ao m.vars.length ac, .slice ro m.rules.length rc, .slice po ps.length pc, .slice fo l.length fc] 51)).size) (hT.below (hA _) hB) (hV.below (hA _))
  generalize tkcode m ps l = c at *; generalize m.vars.length = vn at *; generalize m.rules.length = rn at *; generalize ps.length = pn at *; generalize l.length = fn at *; clear hV hT
  go_enter Tryz.func24, Tryz.ntmps24
  go_wp2_with (first | (go_at_call 39; refine hp.mono ?_; rintro e w1 ⟨rfl, hb1⟩; have hbw := (hA _).trans (hb1.mono (hA _).size)))
  go_ret2
  exact ⟨rfl, hbw⟩
theorem claims_any (B : Nat) (va vr pv fv : Value) (ao : Option Addr) (an ac bs bl : Nat) (w : World) (h6 : an <= 6) (hS : SurvAt w B va vr pv fv (.slice ao an ac) bs bl) :
    Calls Tryz.prog 43 #[.pointer (some ⟨B, 0, none⟩)] w fun e w' => e = .returned (.int .i64 ((2 ^ an : Nat) : Int)) /\ w' = w := by
  have c4 := hS.c4; clear hS
  rcases (show an = 0 \/ an = 1 \/ an = 2 \/ an = 3 \/ an = 4 \/ an = 5 \/ an = 6 by omega) with rfl | rfl | rfl | rfl | rfl | rfl | rfl
  all_goals
    go_enter Tryz.func43, Tryz.ntmps43
    go_wp2
    go_ret
    exact ⟨rfl, rfl⟩
end Go.Proofs.YtobopjjmhginlaaGreatDoor
