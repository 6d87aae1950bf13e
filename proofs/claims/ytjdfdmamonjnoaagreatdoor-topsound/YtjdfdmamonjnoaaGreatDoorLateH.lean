/-
  Joined out of VkM, PEx, Anyway, AnyOps, Joined, Joined2, KeepLetter, BoolsOf, LettersOf, KeepWord, KeepHolds, KTask, TtNot, BaM, EyM, VkLetters, VrSeek, VrLead, VrConcat, VrRuns, VkKeeps, EyWalk, in their order: a claim bears at most so many files.
-/
import Derived.Test.YtjdfdmamonjnoaaGreatDoorLateE
import Derived.Test.YtjdfdmamonjnoaaGreatDoorLateA
import Derived.Test.YtjdfdmamonjnoaaGreatDoorLateC
import Derived.Test.YtjdfdmamonjnoaaGreatDoorLateG
import Derived.Test.YtjdfdmamonjnoaaGreatDoorLateD
import Derived.Test.YtjdfdmamonjnoaaGreatDoorMem
import Derived.Deep.AppendLies
import Derived.Laws.AppendOwnNone
import Derived.Test.YtjdfdmamonjnoaaGreatDoorModelMem
import Derived.Test.YtjdfdmamonjnoaaGreatDoorBools
import Derived.Test.YtjdfdmamonjnoaaGreatDoorRow
import Derived.Lib.SmallJoins
import Derived.Deep.RegionHeld3
import Derived.Test.YtjdfdmamonjnoaaGreatDoorGrown3
import Derived.Test.YtjdfdmamonjnoaaGreatDoorIntsOf
import Derived.Lib.AppendZeros
namespace Go.Proofs.YtjdfdmamonjnoaaGreatDoor
open Go.ChangeShapes Go.WideShapes Go.ChangeAt Go.RowKit Go.Deep
open Terms Tm
set_option maxHeartbeats 6400000
set_option maxRecDepth 20000
theorem tk_zeroV {m : Mo} {ps : List (List (Int × Int))} {l : List (Int × Int)} (h : tkcode m ps l = 0) : pcode m ps = 0 /\ lcode ps.length l = 0 := by
  unfold tkcode at h
  split at h
  · rename_i h1
    exact absurd h h1
  · rename_i h1
    exact ⟨Classical.not_not.1 h1, h⟩
theorem tk_letV {m : Mo} {ps : List (List (Int × Int))} {l : List (Int × Int)} (h : tkcode m ps l = 0) {c : Int} (hc : 0 <= c /\ c < prodTo m.vars m.vars.length) : letC m ps c = 0 /\ (letL m ps c).length = ps.length := by
  obtain ⟨hp, _⟩ := tk_zeroV h; obtain ⟨hm, _⟩ := pcode_m hp; have h1 : letC m ps c = 0 := by unfold letC; rw [if_pos hp, wcode_yes hm hc]
  refine ⟨h1, ?_⟩
  unfold letL; rw [if_pos h1, List.length_map]
open Classical in
theorem run_range {m : Mo} {ss ll : List Int} (h : runB m ss ll = true) : (∀ i, i < ss.length -> 0 <= ss.getD i 0 /\ ss.getD i 0 < prodTo m.vars m.vars.length) /\ ∀ i, i < ll.length -> 0 <= ll.getD i 0 /\ ll.getD i 0 < prodTo m.vars m.vars.length := by
  obtain ⟨hm, hne, hf, hl⟩ := of_decide_eq_true h; have h0 : 0 <= (rvd ss ll).getD 0 0 /\ (rvd ss ll).getD 0 0 < prodTo m.vars m.vars.length := by rw [hf]; exact firstC_range hm
  have hk : ∀ k, k < (rvd ss ll).length -> 0 <= (rvd ss ll).getD k 0 /\ (rvd ss ll).getD k 0 < prodTo m.vars m.vars.length := fun k hk => LeadsTo.range hm h0 (fun i hi => hl i (by omega))
  rw [rvd_len] at hk; refine ⟨fun i hi => ?_, fun i hi => ?_⟩
  · have h1 := hk i (by omega)
    rw [show (rvd ss ll).getD i 0 = ss.getD i 0 by unfold rvd; simp [List.getD_eq_getElem?_getD, List.getElem?_append_left, hi]] at h1
    exact h1
  · have h1 := hk (ss.length + i) (by omega)
    rw [show (rvd ss ll).getD (ss.length + i) 0 = ll.getD i 0 by unfold rvd; rw [List.append_assoc]; simp [List.getD_eq_getElem?_getD, List.getElem?_append_right, List.getElem?_append_left, hi]] at h1
    exact h1
theorem run_ne {m : Mo} {ss ll : List Int} (h : runB m ss ll = true) : 1 <= ll.length := by
  rcases Nat.eq_zero_or_pos ll.length with h0 | h0
  · rw [List.length_eq_zero_iff.1 h0, runB_none] at h; cases h
  · exact h0
noncomputable def lets (m : Mo) (ps : List (List (Int × Int))) (cs : List Int) : List (List Bool) := cs.map (letL m ps)
theorem lets_len (m : Mo) (ps : List (List (Int × Int))) (cs : List Int) : (lets m ps cs).length = cs.length := by simp [lets]
theorem lets_at {m : Mo} {ps : List (List (Int × Int))} {cs : List Int} {i : Nat} (hi : i < cs.length) : (lets m ps cs).getD i [] = letL m ps (cs.getD i 0) := by simp [lets, List.getD_eq_getElem?_getD, hi]
theorem run_word {m : Mo} {ps : List (List (Int × Int))} {l : List (Int × Int)} {ss ll : List Int} (hk : tkcode m ps l = 0) (hs : ss.length <= 12) (hl : ll.length <= 12) (h : runB m ss ll = true) : mocode ps.length l (lets m ps ss) (lets m ps ll) = 0 := by
  obtain ⟨hp, hl0⟩ := tk_zeroV hk; have h6 := (pcode_m hp).2; have hr := run_range h; have h1 := run_ne h; unfold mocode; rw [hl0, if_neg (by simp)]
  refine wdcode_ok (by omega) (by rw [lets_len, lets_len]; omega) ?_
  unfold letBad; rw [List.any_eq_false]; intro x hx
  have hxl : x.length = ps.length := by
    rcases List.mem_append.1 hx with hx | hx
    all_goals
      obtain ⟨y, hy, rfl⟩ := List.mem_map.1 hx; obtain ⟨i, hi, rfl⟩ := List.mem_iff_getElem.1 hy
    · have := hr.1 i hi
      rw [show ss.getD i 0 = ss[i] by simp [List.getD_eq_getElem?_getD, hi]] at this
      exact (tk_letV hk this).2
    · have := hr.2 i hi
      rw [show ll.getD i 0 = ll[i] by simp [List.getD_eq_getElem?_getD, hi]] at this
      exact (tk_letV hk this).2
  simp [hxl]
theorem BoolsV.setS {w : World} {v : Value} {l : List Bool} {p : Addr} {a : Option Addr} {n c : Nat} (h : BoolsV w v l) (hc : w.cell? p = some (.slice a n c)) (u : Value) : BoolsV (w.setCell p u) v l := by
  obtain ⟨ao, cap, rfl, h⟩ := h; refine ⟨ao, cap, rfl, fun hne => ?_⟩
  obtain ⟨b, off, rfl, hlt, hat⟩ := h hne; refine ⟨b, off, rfl, by simpa using hlt, fun i hi => ?_⟩
  have h1 := hat i hi
  have hne2 : (⟨b, off + i, none⟩ : Addr) ≠ p := by
    intro e; rw [e, hc] at h1; simp at h1
  rw [World.cell?_setCell_other _ _ _ _ hne2.symm]
  exact h1
end Go.Proofs.YtjdfdmamonjnoaaGreatDoor
namespace Go.Proofs.YtjdfdmamonjnoaaGreatDoor
open Go.ChangeShapes Go.WideShapes Go.ChangeAt Go.RowKit Go.Deep Go.Maps
open Terms Tm
set_option maxHeartbeats 6400000
set_option maxRecDepth 20000
theorem explore_bad (va vr pv fv : Value) (m : Mo) (ps : List (List (Int × Int))) (l : List (Int × Int)) (w : World) (hB : 0 < w.heap.size) (hT : TabAt w) (hV : TaskV w va vr pv fv m ps l) (hk : tkcode m ps l ≠ 0) :
    Calls Tryz.prog 23 #[.agg #[va, vr, pv, fv]] w (ExAns w m ps l) := by
  unfold ExAns; obtain ⟨ao, ac, rfl⟩ := hV.mo.1.shape; obtain ⟨ro, rc, rfl⟩ := hV.mo.2.shape; obtain ⟨po, pc, rfl⟩ := hV.ps.shape; obtain ⟨fo, fc, rfl, _⟩ := id hV.fo
  obtain ⟨W0, hW0⟩ : ∃ W0, W0 = (w.alloc (.cells #[.slice ao m.vars.length ac, .slice ro m.rules.length rc, .slice po ps.length pc, .slice fo l.length fc] 34)).alloc (.cells #[.slice none 0 0, .int .i64 0, .slice none 0 0, .slice none 0 0, .int .i64 0] 71) := ⟨_, rfl⟩
  have hbW : Below w.heap.size w W0 := by rw [hW0]; exact ((Below.refl _ _).alloc (Nat.le_refl _) _).alloc (by simp) _
  have hzW : W0.heap.size = w.heap.size + 2 := by rw [hW0]; simp
  have hX0 : W0.heap[w.heap.size + 1]? = some (grB (.slice none 0 0) (.slice none 0 0) (.slice none 0 0) 0 0) := by
    rw [hW0]; have := (MapKept.heap_alloc (w.alloc (.cells #[.slice ao m.vars.length ac, .slice ro m.rules.length rc, .slice po ps.length pc, .slice fo l.length fc] 34)) (.cells #[.slice none 0 0, .int .i64 0, .slice none 0 0, .slice none 0 0, .int .i64 0] 71)).1; rw [World.size_alloc] at this; exact this
  have hsv := surveyOf_bad _ _ _ _ m ps l W0 (Nat.lt_of_lt_of_le hB hbW.size) (hT.below hbW hB) (hV.below hbW) hk
  have HFin : Hid (∀ w1, Below W0.heap.size W0 w1 -> (w1.cell? ⟨w.heap.size + 1, 0, none⟩ = some (.slice none 0 0) /\ w1.cell? ⟨w.heap.size + 1, 1, none⟩ = some (.int .i64 0) /\ w1.cell? ⟨w.heap.size + 1, 2, none⟩ = some (.slice none 0 0) /\ w1.cell? ⟨w.heap.size + 1, 3, none⟩ = some (.slice none 0 0) /\ w1.cell? ⟨w.heap.size + 1, 4, none⟩ = some (.int .i64 0)) /\ (∀ i, w1.frozen? ⟨w.heap.size + 1, i, none⟩ = false) /\ Below w.heap.size w w1) := fun w1 h => by
    have hb := (h.block (w.heap.size + 1) (by omega)).trans hX0
    exact ⟨grB_cells hb, grB_free hb, hbW.trans (h.mono hbW.size)⟩
  have HK : Hid (tkcode m ps l ≠ 0) := hk; generalize tkcode m ps l = tc at *; generalize m.vars.length = vn at *; generalize m.rules.length = rn at *; generalize ps.length = pn at *; generalize l.length = fn at *; clear hV hT
  go_enter Tryz.func23, Tryz.ntmps23
  go_wp2_with (first | (go_at_call 46; rw [<- hW0]; refine hsv.mono ?_; rintro e w1 ⟨rfl, hb1⟩; obtain ⟨⟨x0, x1, x2, x3, x4⟩, xf, hbw⟩ := HFin.out w1 hb1; have f0 := xf 0; have f1 := xf 1; have f2 := xf 2; have f3 := xf 3; have f4 := xf 4))
  have hbF : Below w.heap.size w (((((w1.setCell ⟨w.heap.size + 1, 0, none⟩ (.slice none 0 0)).setCell ⟨w.heap.size + 1, 1, none⟩ (.int .i64 0)).setCell ⟨w.heap.size + 1, 2, none⟩ (.slice none 0 0)).setCell ⟨w.heap.size + 1, 3, none⟩ (.slice none 0 0)).setCell ⟨w.heap.size + 1, 4, none⟩ (.int .i64 0)) := hbw.trans ((chg_box w1 (w.heap.size + 1) _ _ _ _ _).below (fun i e => by omega) (by have := hbw.size; omega))
  refine bodyPost_ret (v := .tuple #[.agg #[.slice none 0 0, .int .i64 0, .slice none 0 0, .slice none 0 0, .int .i64 0], .int .i64 tc]) ?_ rfl (.inr (.inr ⟨HK.out, rfl, hbF⟩))
  simp [results, Tryz.results23, go_sem, x0, x1, x2, x3, x4]
theorem ex_start (W0 w1 w2 : World) (n : Nat) (va vr pv fv : Value) (m : Mo) (ps : List (List (Int × Int))) (l : List (Int × Int)) (ho : Option Addr) (hc : Nat) (so : Option Addr) (sc : Nat) (hk : tkcode m ps l = 0) (hb1 : Below W0.heap.size W0 w1) (hn : W0.heap.size <= n) (hs : SurvAt w1 (n + 2) va vr pv fv (.slice ho (aheadL l).length hc) n (n + 1)) (hor : w1.ownsRow W0.heap.size 3 1 (.slice ho (aheadL l).length hc) (aheadL l).length (ivals (aheadL l))) (hm : w1.heap[n]? = some (.map #[] 0) /\ w1.heap[n + 1]? = some (.map #[] 0)) (hb2 : Below w1.heap.size w1 w2) (hsp : SpO w2 w1.heap.size (.slice so (begL m ps l).length sc) (begL m ps l)) :
    Calls Tryz.prog 48 #[.pointer (some ⟨w2.heap.size + 1, 0, none⟩), .slice so (begL m ps l).length sc] ((w2.alloc (.map #[] 0)).alloc (.cells #[.slice none 0 0, .int .i64 ((begL m ps l).length : Nat), .slice none 0 0, .slice none 0 0, .int .i64 ((aheadL l).length : Nat), .map (some w2.heap.size)] 124)) fun e w3 => ∃ v sv, e = .returned v /\ Hid (ExW W0 w3 w2.heap.size (w2.heap.size + 1) w2.heap.size (n + 2) n (n + 1) (0 * 300001) va vr pv fv m ps l ho hc (xpP m ps l 0) (xpN m ps l 0) (xpT m ps l 0) ((begL m ps l).length : Nat) ((aheadL l).length : Nat) sv (.slice none 0 0) (.slice none 0 0)) := by
  have hbl := begL_len hk; have hv1 : SvOk (fun _ => True) W0 w1 (n + 2) n (n + 1) 0 va vr pv fv m ps l ho hc := SvOk.made (Below.refl _ _) hb1 hn hs hor hm.1 hm.2
  have hv2 := hv1.below hb2; have hl1 := hv2.box.lt; have hl2 : n < w2.heap.size := by omega
  obtain ⟨WA, hWA⟩ : ∃ WA, WA = (w2.alloc (.map #[] 0)).alloc (.cells #[.slice none 0 0, .int .i64 ((begL m ps l).length : Nat), .slice none 0 0, .slice none 0 0, .int .i64 ((aheadL l).length : Nat), .map (some w2.heap.size)] 124) := ⟨_, rfl⟩
  have hbA : Below w2.heap.size w2 WA := by rw [hWA]; exact ((Below.refl _ _).alloc (Nat.le_refl _) _).alloc (by simp) _
  have hmA : WA.heap[w2.heap.size]? = some (.map #[] 0) := by
    rw [hWA, Below.heap_alloc _ _ _ (by simp)]
    exact (MapKept.heap_alloc w2 _).1
  have hxA : WA.heap[w2.heap.size + 1]? = some (atB (.slice none 0 0) (.slice none 0 0) (.slice none 0 0) ((begL m ps l).length : Nat) ((aheadL l).length : Nat) w2.heap.size) := by
    rw [hWA]; have := (MapKept.heap_alloc (w2.alloc (.map #[] 0)) (.cells #[.slice none 0 0, .int .i64 ((begL m ps l).length : Nat), .slice none 0 0, .slice none 0 0, .int .i64 ((aheadL l).length : Nat), .map (some w2.heap.size)] 124)).1; rw [World.size_alloc] at this; exact this
  have hX : ExW W0 WA w2.heap.size (w2.heap.size + 1) w2.heap.size (n + 2) n (n + 1) (0 * 300001) va vr pv fv m ps l ho hc [] (xpN m ps l 0) (xpT m ps l 0) ((begL m ps l).length : Nat) ((aheadL l).length : Nat) (.slice none 0 0) (.slice none 0 0) (.slice none 0 0) := by
    refine ⟨((hv2.re (Pz' := offT (.slice none 0 0)) (fun _ _ _ e => by simp [Value.ownBlock] at e) (fun _ _ e => by simp [Value.ownBlock] at e)).below hbA).mono (by omega), ⟨hxA, by omega, Nat.le_refl _, LiesAt.new hmA, SpO.nil _ _, ⟨[], World.ownsRow_nil _ _ _ _, rfl, fun i hi => by simp [xpN] at hi⟩, World.ownsRow_nil _ _ _ _⟩, ?_, ?_, ?_, ?_⟩
    · have := hv2.bel.size; omega
    · omega
    · omega
    · omega
  have hsv := (hsp.later hbA (Nat.le_refl _)).v; have hIs : ∀ j, j < (begL m ps l).length -> I64s ((begL m ps l).getD j (0, 0)) := fun j hj => spot_I64 hk (begL_spot hk (by rw [List.getD_eq_getElem?_getD, List.getElem?_eq_getElem hj]; exact List.getElem_mem _))
  have hsep : ∀ a, so = some a -> ¬ atZ (w2.heap.size + 1) w2.heap.size (.slice none 0 0) a.block := fun a e z => by
    have hlt : a.block < w2.heap.size := by
      rcases hsp.2 with ⟨h0, _⟩ | ⟨g, cap, cur, h1, _, h3, _⟩
      · rw [e] at h0; simp at h0
      · rw [e] at h1
        injection h1 with h1 _ _
        injection h1 with h1
        subst h1; exact (Array.getElem?_eq_some_iff.1 h3).1
    rcases z with z | z | z
    · omega
    · omega
    · simp [Value.ownBlock] at z
  rw [<- hWA]; refine (places_any WA w2.heap.size (w2.heap.size + 1) w2.heap.size [] _ _ _ _ _ _ _ _ so sc hX.tl hsv hsep hIs (by simp; omega)).mono fun e w3 ⟨h1, sv', h2, h3, h4, h5, h6⟩ => ?_
  exact ⟨_, sv', h1, hX.put h5 h2⟩
theorem ex_round (W0 wr : World) (base A lm B bs bl k : Nat) (va vr pv fv : Value) (m : Mo) (ps : List (List (Int × Int))) (l : List (Int × Int)) (ho : Option Addr) (hc : Nat) (init many : Int) (sv nv tv : Value) (hB : 0 < W0.heap.size) (hT : TabAt W0) (hV : TaskV W0 va vr pv fv m ps l) (hk : tkcode m ps l = 0) (hX : ExW W0 wr base A lm B bs bl (k * 300001) va vr pv fv m ps l ho hc (xpP m ps l k) (xpN m ps l k) (xpT m ps l k) init many sv nv tv) (hlt : k < (xpP m ps l k).length) (hz : (xpP m ps l k).length <= 20000) (hsp : ∀ p ∈ xpP m ps l k, spOk m l p) :
    Calls Tryz.prog 49 #[.pointer (some ⟨A, 0, none⟩), .pointer (some ⟨B, 0, none⟩), .agg #[.int .i64 (xpAt m ps l k).1, .int .i64 (xpAt m ps l k).2]] wr fun e w' => e = .returned (.int .i64 (if 20000 < (xpP m ps l (k + 1)).length then 12 else 0)) /\ ∃ sv nv tv, Hid (ExW W0 w' base A lm B bs bl ((k + 1) * 300001) va vr pv fv m ps l ho hc (xpP m ps l (k + 1)) (xpN m ps l (k + 1)) (xpT m ps l (k + 1)) init many sv nv tv) := by
  obtain ⟨h1, d, h2, h3⟩ := hsp _ (xpAt_mem hlt); have hgo := goThrough_any W0 wr base A lm B bs bl (k * 300001) va vr pv fv m ps l ho hc (xpP m ps l k) (xpN m ps l k) (xpT m ps l k) init many sv nv tv (xpAt m ps l k).1 d hB hT hV hk hX (by omega) h1 h2 hz (by rw [xpN_len]; omega) (by rw [xpT_len]; omega)
  unfold GoPost at hgo; rw [<- h3] at hgo; refine hgo.mono fun e w' ⟨g1, sv', nv', tv', g2⟩ => ⟨g1, sv', nv', tv', ?_⟩
  have e1 : (k + 1) * 300001 = k * 300001 + 300001 := by omega
  rw [e1]; exact g2
theorem explore_ok (va vr pv fv : Value) (m : Mo) (ps : List (List (Int × Int))) (l : List (Int × Int)) (w : World) (hB : 0 < w.heap.size) (hT : TabAt w) (hV : TaskV w va vr pv fv m ps l) (hk : tkcode m ps l = 0) :
    Calls Tryz.prog 23 #[.agg #[va, vr, pv, fv]] w (ExAns w m ps l) := by
  unfold ExAns; obtain ⟨ao, ac, rfl⟩ := hV.mo.1.shape; obtain ⟨ro, rc, rfl⟩ := hV.mo.2.shape; obtain ⟨po, pc, rfl⟩ := hV.ps.shape; obtain ⟨fo, fc, rfl, _⟩ := id hV.fo
  obtain ⟨W0, hW0⟩ : ∃ W0, W0 = (w.alloc (.cells #[.slice ao m.vars.length ac, .slice ro m.rules.length rc, .slice po ps.length pc, .slice fo l.length fc] 34)).alloc (.cells #[.slice none 0 0, .int .i64 0, .slice none 0 0, .slice none 0 0, .int .i64 0] 71) := ⟨_, rfl⟩
  have hbW : Below w.heap.size w W0 := by rw [hW0]; exact ((Below.refl _ _).alloc (Nat.le_refl _) _).alloc (by simp) _
  have hzW : W0.heap.size = w.heap.size + 2 := by rw [hW0]; simp
  have hX0 : W0.heap[w.heap.size + 1]? = some (grB (.slice none 0 0) (.slice none 0 0) (.slice none 0 0) 0 0) := by
    rw [hW0]; have := (MapKept.heap_alloc (w.alloc (.cells #[.slice ao m.vars.length ac, .slice ro m.rules.length rc, .slice po ps.length pc, .slice fo l.length fc] 34)) (.cells #[.slice none 0 0, .int .i64 0, .slice none 0 0, .slice none 0 0, .int .i64 0] 71)).1; rw [World.size_alloc] at this; exact this
  have hB0 : 0 < W0.heap.size := Nat.lt_of_lt_of_le hB hbW.size; have hT0 := hT.below hbW hB; have hV0 := hV.below hbW; have hsv := surveyOf_ok _ _ _ _ m ps l W0 hB0 hT0 hV0 hk
  have HFin : Hid (∀ w1, Below W0.heap.size W0 w1 -> (w1.cell? ⟨w.heap.size + 1, 0, none⟩ = some (.slice none 0 0) /\ w1.cell? ⟨w.heap.size + 1, 1, none⟩ = some (.int .i64 0) /\ w1.cell? ⟨w.heap.size + 1, 2, none⟩ = some (.slice none 0 0) /\ w1.cell? ⟨w.heap.size + 1, 3, none⟩ = some (.slice none 0 0) /\ w1.cell? ⟨w.heap.size + 1, 4, none⟩ = some (.int .i64 0)) /\ (∀ i, w1.frozen? ⟨w.heap.size + 1, i, none⟩ = false) /\ TyB w1 (w.heap.size + 1) 71 /\ Below w.heap.size w w1) := fun w1 h => by
    have hb := (h.block (w.heap.size + 1) (by omega)).trans hX0
    exact ⟨grB_cells hb, grB_free hb, ⟨_, _, hb⟩, hbW.trans (h.mono hbW.size)⟩
  have HBe : Hid (∀ (w1 : World) (B bs bl : Nat) (ho : Option Addr) (hcp : Nat), Below W0.heap.size W0 w1 -> SurvAt w1 B (.slice ao m.vars.length ac) (.slice ro m.rules.length rc) (.slice po ps.length pc) (.slice fo l.length fc) (.slice ho (aheadL l).length hcp) bs bl -> Calls Tryz.prog 47 #[.pointer (some ⟨B, 0, none⟩)] w1 fun e w' => ∃ so sc, e = .returned (.tuple #[.slice so (begL m ps l).length sc, .int .i64 0]) /\ Below w1.heap.size w1 w' /\ Hid (SpO w' w1.heap.size (.slice so (begL m ps l).length sc) (begL m ps l))) := fun w1 B bs bl ho hcp h hs => begin_any B _ _ _ _ m ps l ho hcp bs bl w1 (Nat.lt_of_lt_of_le hB0 h.size) (hT0.below h hB0) (hV0.below h) hk hs
  have HSt := (show Hid _ from fun (w1 w2 : World) (n : Nat) (ho : Option Addr) (hc : Nat) (so : Option Addr) (sc : Nat) => ex_start W0 w1 w2 n (.slice ao m.vars.length ac) (.slice ro m.rules.length rc) (.slice po ps.length pc) (.slice fo l.length fc) m ps l ho hc so sc hk)
  have HRd := (show Hid _ from fun (wr : World) (base A lm B bs bl k : Nat) (ho : Option Addr) (hc : Nat) (sv nv tv : Value) => ex_round W0 wr base A lm B bs bl k (.slice ao m.vars.length ac) (.slice ro m.rules.length rc) (.slice po ps.length pc) (.slice fo l.length fc) m ps l ho hc ((begL m ps l).length : Nat) ((aheadL l).length : Nat) sv nv tv hB0 hT0 hV0 hk)
  have HP0 : Hid ((∀ p ∈ xpP m ps l 0, spOk m l p) /\ (xpP m ps l 0).length <= 20000) := ⟨xpP_zero hk, by
    have h1 := (plTo_length (begL m ps l) []).2; have h2 := begL_len hk; have e : xpP m ps l 0 = plTo [] (begL m ps l) := rfl; rw [e]; simp at h1
    omega⟩
  have HPn : Hid (∀ k, k < (xpP m ps l k).length -> (∀ p ∈ xpP m ps l k, spOk m l p) -> ∀ p ∈ xpP m ps l (k + 1), spOk m l p) := fun k h1 h2 => xpP_next hk h1 h2
  have HK : Hid (tkcode m ps l = 0) := hk; have hbn := begL_len hk; have han := (lcode_zero (tk_zero hk).2).2.2.2.2; unfold SurvPost at hsv; clear hV hT hV0 hT0 hk; generalize hbl : (begL m ps l).length = bn at *; generalize hal : (aheadL l).length = an at *; generalize m.vars.length = vn at *; generalize m.rules.length = rn at *; generalize ps.length = pn at *; generalize l.length = fn at *
  have hmm := @run_makeMap Tryz.prog
  go_enter Tryz.func23, Tryz.ntmps23
  go_upto_region 8 with (first | (go_at_call 46; rw [<- hW0]; refine hsv.mono ?_; rintro e w1 ⟨n, ho, hcp, rfl, hb1, hn1, _, HS, HO, HM⟩; have hbe := HBe.out w1 _ _ _ _ _ hb1 HS.out) | (go_at_call 47; refine hbe.mono ?_; rintro e w2 ⟨so, sc, rfl, hb2, HSp⟩; have hst := HSt.out w1 w2 n ho hcp so sc hb1 hn1 HS.out HO.out HM.out hb2 HSp.out; have x4 := (HS.out.later hb2).c4))
  go_wp2_with (first | (go_at_call 48; refine hst.mono ?_; rintro e w3 ⟨v3, sv3, rfl, HX3⟩))
  generalize hA : w2.heap.size + 1 = A at *; generalize hlm : w2.heap.size = lm at *; generalize hBn : n + 2 = B at *; generalize hbs : n + 1 = bl at *; clear hst hsv hbe HSt HBe HS HO HM HSp x4 hb1 hb2 hmm hlm
  go_loopw [8] (fun i wr => ∃ k pk : Nat, i = .int .i64 k /\ k <= pk /\ pk <= 20000 /\ Hid ((xpP m ps l k).length = pk /\ (∀ p ∈ xpP m ps l k, spOk m l p) /\ ∀ j, j < k -> j < (xpP m ps l j).length) /\ ∃ vo vc nv tv, Hid (ExW W0 wr lm A lm B n bl (k * 300001) (.slice ao vn ac) (.slice ro rn rc) (.slice po pn pc) (.slice fo fn fc) m ps l ho hcp (xpP m ps l k) (xpN m ps l k) (xpT m ps l k) (bn : Nat) (an : Nat) (.slice vo pk vc) nv tv)) (fun i _ => 20001 - (intOf i).toNat)
  case atStart =>
    obtain ⟨vo, vc, e⟩ := HX3.out.tl.sp.shape; refine ⟨0, (xpP m ps l 0).length, rfl, Nat.zero_le _, HP0.out.2, ⟨rfl, HP0.out.1, fun j hj => by omega⟩, vo, vc, .slice none 0 0, .slice none 0 0, ?_⟩
    rw [<- e]; exact HX3.out
  case round =>
    obtain ⟨k, pk, rfl, hkp, hpk, HK2, vo, vc, nv, tv, HX⟩ := hrel; obtain ⟨a0, a1, a2, a3, a4, a5⟩ := atB_cells HX.out.tl.box
    by_cases hlt : k < pk
    · have hki : (k : Int) < (pk : Int) := by omega
      have hlt2 : k < (xpP m ps l k).length := by rw [HK2.out.1]; exact hlt
      obtain ⟨b, off, rfl, _, c0, c1⟩ := HX.out.tl.sp.v.get hlt2; have hrd := HRd.out wr lm A lm B n bl k ho hcp _ nv tv HX.out hlt2 (by rw [HK2.out.1]; exact hpk) HK2.out.2.1
      have HKn : Hid ((∀ p ∈ xpP m ps l (k + 1), spOk m l p) /\ ∀ j, j < k + 1 -> j < (xpP m ps l j).length) := ⟨HPn.out k hlt2 HK2.out.2.1, fun j hj => by
        by_cases h : j < k
        · exact HK2.out.2.2 j h
        · obtain rfl : j = k := by omega
          exact hlt2⟩
      have e1 : (xpP m ps l k).getD k (0, 0) = xpAt m ps l k := rfl; rw [e1] at c0 c1; clear e1 HX HRd hlt2; generalize xpAt m ps l k = s at *; obtain ⟨x, y⟩ := s; simp only at c0 c1 hrd
      by_cases hfull : 20000 < (xpP m ps l (k + 1)).length
      · rw [if_pos hfull] at hrd
        have HFu : Hid (ExFull m ps l) := ⟨k, fun j hj => HKn.out.2 j (by omega), hfull⟩
        clear hfull HKn HK2
        go_wp2_with (first | (go_at_call 49; refine hrd.mono ?_; rintro e w4 ⟨rfl, sv4, nv4, tv4, HX4⟩; obtain ⟨⟨x0, x1, x2, x3, x4⟩, xf, _, hbw⟩ := HFin.out w4 HX4.out.su.bel; have f0 := xf 0; have f1 := xf 1; have f2 := xf 2; have f3 := xf 3; have f4 := xf 4))
        have hbF : Below w.heap.size w (((((w4.setCell ⟨w.heap.size + 1, 0, none⟩ (.slice none 0 0)).setCell ⟨w.heap.size + 1, 1, none⟩ (.int .i64 0)).setCell ⟨w.heap.size + 1, 2, none⟩ (.slice none 0 0)).setCell ⟨w.heap.size + 1, 3, none⟩ (.slice none 0 0)).setCell ⟨w.heap.size + 1, 4, none⟩ (.int .i64 0)) := hbw.trans ((chg_box w4 (w.heap.size + 1) _ _ _ _ _).below (fun i e => by omega) (by have := hbw.size; omega))
        refine bodyPost_ret (v := .tuple #[.agg #[.slice none 0 0, .int .i64 0, .slice none 0 0, .slice none 0 0, .int .i64 0], .int .i64 12]) ?_ rfl (.inr (.inl ⟨HK.out, HFu.out, rfl, hbF⟩))
        simp [results, Tryz.results23, go_sem, x0, x1, x2, x3, x4]
      · rw [if_neg hfull] at hrd
        have HLe : Hid ((xpP m ps l (k + 1)).length <= 20000 /\ pk <= (xpP m ps l (k + 1)).length) := ⟨by omega, by
          rw [<- HK2.out.1]
          exact (exS_pre (begL m ps l) (xpBh m ps l) k).length_le⟩
        clear hfull HK2
        go_wp2_with (first | (go_at_call 49; refine hrd.mono ?_; rintro e w4 ⟨rfl, sv4, nv4, tv4, HX4⟩))
        go_roundw
        case rel =>
          obtain ⟨vo4, vc4, e⟩ := HX4.out.tl.sp.shape; refine ⟨k + 1, (xpP m ps l (k + 1)).length, by go_num, by have := HLe.out.2; omega, HLe.out.1, ⟨rfl, HKn.out⟩, vo4, vc4, nv4, tv4, ?_⟩
          rw [<- e]; exact HX4.out
        case measure => simp [intOf]; omega
    · obtain rfl : k = pk := by omega
      obtain ⟨⟨x0, x1, x2, x3, x4⟩, xf, hty, hbw⟩ := HFin.out wr HX.out.su.bel; have f0 := xf 0; have f1 := xf 1; have f2 := xf 2; have f3 := xf 3; have f4 := xf 4; have HDn : Hid (ExDone m ps l k) := ⟨HK2.out.1, hpk, HK2.out.2.2, HK2.out.2.1⟩
      have HG : Hid (GrX wr w.heap.size m ps l k (.slice vo k vc) nv tv) := by
        have hle : w.heap.size <= lm := by have := HX.out.lo.1; have := hbW.size; omega
        exact ⟨owns_mono HX.out.tl.sp hle, HX.out.tl.nx.mono hle, owns_mono HX.out.tl.st hle⟩
      obtain ⟨no, nn, nc, rfl⟩ : ∃ no nn nc, nv = .slice no nn nc := by
        obtain ⟨us, h1, _⟩ := HX.out.tl.nx; obtain ⟨x, y, e⟩ := owns_slice h1; exact ⟨_, _, _, e⟩
      obtain ⟨xo, xn, xc, rfl⟩ : ∃ xo xn xc, tv = .slice xo xn xc := by
        obtain ⟨x, y, e⟩ := owns_slice HX.out.tl.st; exact ⟨_, _, _, e⟩
      have HBF : Hid (∀ w8, Chg (fun i => i = w.heap.size + 1) wr w8 -> Below w.heap.size w w8 /\ GrX w8 w.heap.size m ps l k (.slice vo k vc) (.slice no nn nc) (.slice xo xn xc)) := fun w8 h => ⟨hbw.trans (h.below (fun i e => by omega) (by have := hbw.size; omega)), HG.out.chg h hty⟩
      clear HX HK2 HRd HG hty
      go_wp2_with fail
      obtain ⟨r1, r2⟩ := HBF.out _ (chg_box wr (w.heap.size + 1) _ _ _ _ _); refine bodyPost_ret (v := .tuple #[.agg #[.slice vo k vc, .int .i64 (bn : Nat), .slice no nn nc, .slice xo xn xc, .int .i64 (an : Nat)], .int .i64 0]) ?_ rfl (.inl ⟨HK.out, k, HDn.out, _, _, _, rfl, r1, r2⟩)
      simp [results, Tryz.results23, go_sem, x0, x1, x2, x3, x4]
theorem explore_any (va vr pv fv : Value) (m : Mo) (ps : List (List (Int × Int))) (l : List (Int × Int)) (w : World) (hB : 0 < w.heap.size) (hT : TabAt w) (hV : TaskV w va vr pv fv m ps l) :
    Calls Tryz.prog 23 #[.agg #[va, vr, pv, fv]] w (ExAns w m ps l) := by
  by_cases hk : tkcode m ps l = 0
  · exact explore_ok va vr pv fv m ps l w hB hT hV hk
  · exact explore_bad va vr pv fv m ps l w hB hT hV hk
end Go.Proofs.YtjdfdmamonjnoaaGreatDoor
namespace Go.Proofs.YtjdfdmamonjnoaaGreatDoor
open Go.ChangeShapes Go.WideShapes Go.ChangeAt Go.RowKit Go.Deep
set_option maxHeartbeats 6400000
set_option maxRecDepth 20000
section
theorem wpAny_invA {P : Program} {md : Region.Mode} {ops : Array Oper} {Q : Exit -> Act -> World -> Prop} (I : Nat -> Array Bool -> Act -> World -> Prop)
    (hs : ∀ k l a w, I k l a w -> (Region.ready md ops l = [] -> Q .normal a w) /\ (k = 0 -> Region.ready md ops l = []) /\ ∀ k', k = k' + 1 -> ∀ i ∈ Region.ready md ops l, wpOp P ops Q i (fun a' w' => I k' (l.setIfInBounds i true) a' w') a w) :
    ∀ k l a w, I k l a w -> wpAny P md ops Q k l a w
  | 0, l, a, w, h => ⟨(hs 0 l a w h).2.1 rfl, (hs 0 l a w h).1 ((hs 0 l a w h).2.1 rfl)⟩
  | k + 1, l, a, w, h => ⟨(hs _ l a w h).1, fun i hi => wpOp_mono (fun a' w' h' => wpAny_invA I hs k _ a' w' h') ((hs _ l a w h).2.2 k rfl i hi)⟩
def mix (ds : List Nat) (q : Nat -> Value) : Nat -> List Value -> List Value
  | _, [] => []
  | t, v :: l => (if ds.contains t then q t else v) :: mix ds q (t + 1) l
def frm (a : Act) (ds : List Nat) (q : Nat -> Value) : Act := ⟨(mix ds q 0 a.tmps.toList).toArray, a.defers⟩
theorem mix_at (ds : List Nat) (q : Nat -> Value) : ∀ (l : List Value) (t j : Nat), (mix ds q t l)[j]? = (l[j]?).map fun v => if ds.contains (t + j) then q (t + j) else v
  | [], t, j => by simp [mix]
  | v :: l, t, 0 => by simp [mix]
  | v :: l, t, j + 1 => by
    show (mix ds q (t + 1) l)[j]? = (l[j]?).map _
    rw [mix_at ds q l (t + 1) j, show t + 1 + j = t + (j + 1) by omega]
theorem mix_length (ds : List Nat) (q : Nat -> Value) : ∀ (l : List Value) (t : Nat), (mix ds q t l).length = l.length
  | [], t => rfl
  | v :: l, t => by show (mix ds q (t + 1) l).length + 1 = _; rw [mix_length ds q l (t + 1)]; rfl
theorem frm_in {a : Act} {ds : List Nat} {q : Nat -> Value} {t : Nat} (h : ds.contains t = true) (ht : t < a.tmps.size) : (frm a ds q).eval (.tmp t) = q t := by
  show (mix ds q 0 a.tmps.toList).toArray.getD t undef = q t
  rw [Array.getD_eq_getD_getElem?, List.getElem?_toArray, mix_at, Nat.zero_add, h]
  have : a.tmps.toList[t]? = some (a.tmps.toList[t]'(by simpa using ht)) := List.getElem?_eq_getElem _
  rw [this]; rfl
theorem frm_out {a : Act} {ds : List Nat} {q : Nat -> Value} {t : Nat} (h : ds.contains t = false) : (frm a ds q).eval (.tmp t) = a.eval (.tmp t) := by
  show (mix ds q 0 a.tmps.toList).toArray.getD t undef = a.tmps.getD t undef
  rw [Array.getD_eq_getD_getElem?, List.getElem?_toArray, mix_at, Nat.zero_add, h, Array.getD_eq_getD_getElem?, <- Array.getElem?_toList]
  cases a.tmps.toList[t]? <;> rfl
theorem mix_same {ds : List Nat} : ∀ (l : List Value) (q : Nat -> Value) (t : Nat), (∀ j, j < l.length -> q (t + j) = l.getD j undef) -> mix ds q t l = l
  | [], _, _, _ => rfl
  | v :: l, q, t, h => by
    show (if ds.contains t then q t else v) :: mix ds q (t + 1) l = v :: l
    rw [mix_same l q (t + 1) (fun j hj => by have := h (j + 1) (by simp; omega); rw [show t + 1 + j = t + (j + 1) by omega]; exact this)]
    have := h 0 (by simp)
    have h0 : q t = v := this; rw [h0]
    split <;> rfl
theorem frm_start (a : Act) (ds : List Nat) : frm a ds (fun t => a.eval (.tmp t)) = a := by
  unfold frm; rw [mix_same]; intro j hj
  show a.tmps.getD (0 + j) undef = a.tmps.toList.getD j undef
  rw [Nat.zero_add, Array.getD_eq_getD_getElem?, List.getD_eq_getElem?_getD, Array.getElem?_toList]
def setV (q : Nat -> Value) (t : Nat) (v : Value) : Nat -> Value := fun s => if s = t then v else q s
theorem setV_same (q : Nat -> Value) (t : Nat) (v : Value) : setV q t v t = v := if_pos rfl
theorem setV_other {q : Nat -> Value} {s t : Nat} {v : Value} (h : s ≠ t) : setV q t v s = q s := if_neg h
theorem frm_put {a : Act} {ds : List Nat} {q : Nat -> Value} {t : Nat} {v : Value} (h : ds.contains t = true) : (frm a ds q).put (some t) v = frm a ds (setV q t v) := by
  show Act.mk ((mix ds q 0 a.tmps.toList).toArray.setIfInBounds t v) a.defers = Act.mk (mix ds (setV q t v) 0 a.tmps.toList).toArray a.defers
  congr 1
  apply Array.ext_getElem?
  intro j; rw [Array.getElem?_setIfInBounds, List.getElem?_toArray, List.getElem?_toArray, mix_at, mix_at, Nat.zero_add]
  by_cases hj : t = j
  · subst hj
    rw [if_pos rfl, h]; simp only [List.size_toArray, mix_length, Array.length_toList]
    by_cases hs : t < a.tmps.size
    · rw [if_pos hs]
      rw [show a.tmps.toList[t]? = some (a.tmps.toList[t]'(by simpa using hs)) from List.getElem?_eq_getElem _]
      simp [setV]
    · rw [if_neg hs, List.getElem?_eq_none (by simpa using hs)]; rfl
  · rw [if_neg hj]
    cases a.tmps.toList[j]? with
    | none => rfl
    | some u =>
      show some _ = some _
      rw [setV_other (fun e => hj e.symm)]
def waits (ops : Array Oper) (i k : Nat) : Bool := match ops[i]? with | some o => o.after.toList.any (fun e => Region.binds .any e && e.on == k) | none => false
def dstOf (ops : Array Oper) (k : Nat) : Option Nat := match ops[k]? with | some o => o.dst | none => none
def shapeOk (ops : Array Oper) (ds : List Nat) (size m : Nat) : Bool :=
  (List.range ops.size).all (fun i => match ops[i]? with
    | some o => o.guard.isNone && o.after.toList.all (fun e => !Region.binds .any e || Nat.blt e.on i) && (if i < m then (match o.dst with
        | some t => ds.contains t && Nat.blt t size && (List.range m).all (fun j => j == i || !(dstOf ops j == some t)) && (List.range (m + 1)).any (fun k => Nat.blt i k && waits ops k i)
        | none => false) else (List.range i).all (fun j => Nat.blt j m && i == m || waits ops i j))
    | none => false) && Nat.blt m ops.size
structure Shape (ops : Array Oper) (ds : List Nat) (size m : Nat) : Prop where
  lt : m < ops.size
  guard : ∀ (i : Nat) (o : Oper), ops[i]? = some o -> o.guard = none
  before : ∀ (i : Nat) (o : Oper) (e : Edge), ops[i]? = some o -> e ∈ o.after -> Region.binds .any e = true -> e.on < i
  dst : ∀ (i : Nat) (o : Oper), i < m -> ops[i]? = some o -> ∃ t, o.dst = some t /\ ds.contains t = true /\ t < size /\ ∀ j, j < m -> j ≠ i -> dstOf ops j ≠ some t
  heir : ∀ i, i < m -> ∃ k, i < k /\ k <= m /\ waits ops k i = true
  late : ∀ i j, m <= i -> i < ops.size -> j < i -> (j < m /\ i = m) \/ waits ops i j = true
theorem shape_of {ops : Array Oper} {ds : List Nat} {size m : Nat} (h : shapeOk ops ds size m = true) : Shape ops ds size m := by
  unfold shapeOk at h; rw [Bool.and_eq_true, List.all_eq_true] at h; obtain ⟨h1, h2⟩ := h; have hm : m < ops.size := by simpa [Nat.blt_eq] using h2
  have hi : ∀ i o, ops[i]? = some o → (o.guard.isNone && o.after.toList.all (fun e => !Region.binds .any e || Nat.blt e.on i) && (if i < m then (match o.dst with
        | some t => ds.contains t && Nat.blt t size && (List.range m).all (fun j => j == i || !(dstOf ops j == some t)) && (List.range (m + 1)).any (fun k => Nat.blt i k && waits ops k i)
        | none => false) else (List.range i).all (fun j => Nat.blt j m && i == m || waits ops i j))) = true := fun i o ho => by
    have hlt : i < ops.size := by
      rcases Nat.lt_or_ge i ops.size with h | h
      · exact h
      · rw [Array.getElem?_eq_none h] at ho; cases ho
    have := h1 i (List.mem_range.2 hlt); rw [ho] at this; exact this
  refine ⟨hm, fun i o ho => ?_, fun i o e ho he hb => ?_, fun i o him ho => ?_, fun i him => ?_, fun i j him hlt hj => ?_⟩
  · have := hi i o ho
    rw [Bool.and_eq_true, Bool.and_eq_true] at this; simpa using this.1.1
  · have := hi i o ho
    rw [Bool.and_eq_true, Bool.and_eq_true, List.all_eq_true] at this; have := this.1.2 e (by simpa using he)
    rw [hb] at this; simpa [Nat.blt_eq] using this
  · have := hi i o ho
    rw [Bool.and_eq_true, if_pos him] at this; have := this.2
    cases hd : o.dst with
    | none => rw [hd] at this; cases this
    | some t =>
      rw [hd] at this; simp only [Bool.and_eq_true, List.all_eq_true] at this; obtain ⟨⟨⟨e1, e2⟩, e3⟩, e4⟩ := this; refine ⟨t, rfl, e1, by simpa [Nat.blt_eq] using e2, fun j hj hne he => ?_⟩
      have := e3 j (List.mem_range.2 hj); rw [he] at this; simp [hne] at this
  · have hlt : i < ops.size := by omega
    have := hi i ops[i] (Array.getElem?_eq_getElem hlt)
    rw [Bool.and_eq_true, if_pos him] at this; have := this.2
    cases hd : ops[i].dst with
    | none => rw [hd] at this; cases this
    | some t =>
      rw [hd] at this; simp only [Bool.and_eq_true, List.any_eq_true] at this; obtain ⟨_, k, hk, h5, h6⟩ := this; have := List.mem_range.1 hk; exact ⟨k, by simpa [Nat.blt_eq] using h5, by omega, h6⟩
  · have := hi i ops[i] (Array.getElem?_eq_getElem hlt)
    rw [Bool.and_eq_true, if_neg (by omega), List.all_eq_true] at this
    have := this.2 j (List.mem_range.2 hj); simp only [Bool.or_eq_true, Bool.and_eq_true, beq_iff_eq, Nat.blt_eq] at this; exact this
def doneAt (l : Array Bool) (i : Nat) : Prop := l[i]? = some true
theorem ready_iff {ops : Array Oper} {l : Array Bool} (hl : l.size = ops.size) {i : Nat} : i ∈ Region.ready .any ops l ↔ i < ops.size /\ ¬ doneAt l i /\ ∀ k, waits ops i k = true -> doneAt l k := by
  unfold Region.ready; rw [List.mem_filter, List.mem_range]
  constructor
  · rintro ⟨h1, h2⟩
    have hi : i < l.size := by omega
    rw [Bool.and_eq_true] at h2; obtain ⟨h2, h3⟩ := h2; refine ⟨h1, fun hd => ?_, fun k hk => ?_⟩
    · unfold doneAt at hd
      rw [Array.getD_eq_getD_getElem?, hd] at h2; simp at h2
    · unfold waits at hk
      rw [Array.getElem?_eq_getElem h1] at h3 hk
      simp only [Option.map_some, Option.getD_some, Array.all_eq_true_iff_forall_mem] at h3; simp only [List.any_eq_true, Bool.and_eq_true, beq_iff_eq] at hk; obtain ⟨e, he, hb, hon⟩ := hk; have := h3 e (by simpa using he)
      rw [hb, hon] at this; simp only [Bool.not_true, Bool.false_or, Array.getD_eq_getD_getElem?] at this; unfold doneAt
      cases hx : l[k]? with
      | none => rw [hx] at this; simp at this
      | some b => rw [hx] at this; simp at this; rw [this]
  · rintro ⟨h1, h2, h3⟩
    have hi : i < l.size := by omega
    refine ⟨h1, ?_⟩
    rw [Bool.and_eq_true]
    constructor
    · rw [Array.getD_eq_getD_getElem?, Array.getElem?_eq_getElem hi]
      unfold doneAt at h2; rw [Array.getElem?_eq_getElem hi] at h2
      cases hx : l[i] with
      | true => rw [hx] at h2; exact absurd rfl h2
      | false => rfl
    · rw [Array.getElem?_eq_getElem h1]
      simp only [Option.map_some, Option.getD_some, Array.all_eq_true_iff_forall_mem]; intro e he
      cases hb : Region.binds .any e with
      | false => rfl
      | true =>
        have := h3 e.on (by unfold waits; rw [Array.getElem?_eq_getElem h1]; simp only [List.any_eq_true, Bool.and_eq_true, beq_iff_eq]; exact ⟨e, by simpa using he, hb, rfl⟩)
        unfold doneAt at this; rw [Array.getD_eq_getD_getElem?, this]; rfl
def leftA (l : Array Bool) : Nat := l.toList.count false
theorem left_setA {l : Array Bool} {i : Nat} (hi : i < l.size) (h : ¬ doneAt l i) : leftA (l.setIfInBounds i true) + 1 = leftA l := by
  unfold leftA; rw [Array.toList_setIfInBounds]; have hl : i < l.toList.length := by simpa using hi
  have hf : l.toList[i] = false := by
    unfold doneAt at h; rw [Array.getElem?_eq_getElem hi] at h
    have e : l.toList[i] = l[i] := Array.getElem_toList _; rw [e]
    cases hx : l[i] with
    | true => rw [hx] at h; exact absurd rfl h
    | false => rfl
  have hpos : 0 < l.toList.count false := List.count_pos_iff.2 (hf ▸ List.getElem_mem hl); rw [List.count_set hl, hf]
  show l.toList.count false - 1 + 0 + 1 = l.toList.count false
  omega
theorem left_zeroA {l : Array Bool} (h : leftA l = 0) {i : Nat} (hi : i < l.size) : doneAt l i := by
  unfold leftA at h; have h0 : false ∉ l.toList := List.count_eq_zero.1 h; unfold doneAt; rw [Array.getElem?_eq_getElem hi]
  cases hx : l[i] with
  | true => rfl
  | false => exact absurd (by rw [<- hx]; exact Array.getElem_mem_toList hi) h0
theorem done_set {l : Array Bool} {i j : Nat} (hi : i < l.size) : doneAt (l.setIfInBounds i true) j ↔ j = i \/ doneAt l j := by
  unfold doneAt; rw [Array.getElem?_setIfInBounds]
  by_cases h : i = j
  · subst h
    simp [hi]
  · rw [if_neg h]
    constructor
    · exact .inr
    · rintro (h2 | h2)
      · exact absurd h2.symm h
      · exact h2
structure Early (ops : Array Oper) (m : Nat) (W0 : World) (post : Nat -> Value -> World -> Prop) (l : Array Bool) (q : Nat -> Value) (w : World) : Prop where
  size : l.size = ops.size
  later : ∀ i, m <= i -> ¬ doneAt l i
  closed : ∀ i k, doneAt l i -> waits ops i k = true -> doneAt l k
  below : Below W0.heap.size W0 w
  posts : ∀ i t, i < m -> doneAt l i -> dstOf ops i = some t -> post i (q t) w
theorem ready_early {ops : Array Oper} {ds : List Nat} {size m : Nat} (hs : Shape ops ds size m) {l : Array Bool} (hl : l.size = ops.size) {j : Nat} (hj : j < ops.size) (hd : ¬ doneAt l j) : Region.ready .any ops l ≠ [] := by
  have key : ∀ n j, j <= n -> j < ops.size -> ¬ doneAt l j -> ∃ i, i ∈ Region.ready .any ops l := by
    intro n
    induction n with
    | zero =>
      intro j hj0 hj hd; refine ⟨j, (ready_iff hl).2 ⟨hj, hd, fun k hk => ?_⟩⟩
      unfold waits at hk; rw [Array.getElem?_eq_getElem hj] at hk
      simp only [List.any_eq_true, Bool.and_eq_true, beq_iff_eq] at hk; obtain ⟨e, he, hb, hon⟩ := hk; have := hs.before j ops[j] e (Array.getElem?_eq_getElem hj) (by simpa using he) hb
      omega
    | succ n ih =>
      intro j hj0 hj hd
      by_cases h : ∀ k, waits ops j k = true -> doneAt l k
      · exact ⟨j, (ready_iff hl).2 ⟨hj, hd, h⟩⟩
      · obtain ⟨k, hk⟩ := Classical.not_forall.1 h
        obtain ⟨hk, hnd⟩ := Classical.not_imp.1 hk; have hk2 := hk; unfold waits at hk; rw [Array.getElem?_eq_getElem hj] at hk
        simp only [List.any_eq_true, Bool.and_eq_true, beq_iff_eq] at hk; obtain ⟨e, he, hb, hon⟩ := hk; have := hs.before j ops[j] e (Array.getElem?_eq_getElem hj) (by simpa using he) hb
        exact ih k (by omega) (by omega) hnd
  intro h; obtain ⟨i, hi⟩ := key j j (Nat.le_refl _) hj hd; rw [h] at hi
  cases hi
theorem all_early {ops : Array Oper} {ds : List Nat} {size m : Nat} (hs : Shape ops ds size m) {l : Array Bool} (hc : ∀ i k, doneAt l i -> waits ops i k = true -> doneAt l k) (hm : ∀ k, waits ops m k = true -> doneAt l k) : ∀ i, i < m -> doneAt l i := by
  have key : ∀ n i, m - i <= n -> i < m -> doneAt l i := by
    intro n
    induction n with
    | zero => intro i h1 h2; omega
    | succ n ih =>
      intro i h1 h2; obtain ⟨k, h3, h4, h5⟩ := hs.heir i h2
      by_cases hk : k = m
      · subst hk; exact hm i h5
      · exact hc k i (ih k (by omega) (by omega)) h5
  exact fun i hi => key _ i (Nat.le_refl _) hi
theorem wp_anyway {P : Program} {id : Nat} {ops : Array Oper} {Q : Exit -> Act -> World -> Prop} {a0 : Act} {w0 : World} (hmo : P.follows .mixedOrders = true) (ds : List Nat) (m : Nat) (post : Nat -> Value -> World -> Prop)
    (hsh : shapeOk ops ds a0.tmps.size m = true)
    (stable : ∀ i v w w', i < m -> post i v w -> Below w.heap.size w w' -> post i v w')
    (step : ∀ (i : Nat) (o : Oper), i < m -> ops[i]? = some o -> ∀ q w, Below w0.heap.size w0 w -> (∀ k t, waits ops i k = true -> dstOf ops k = some t -> post k (q t) w) -> Oper.wp P o (frm a0 ds q) w (fun a' w' => ∃ v, a' = (frm a0 ds q).put o.dst v /\ Below w.heap.size w w' /\ post i v w') Q)
    (last : ∀ q w, Below w0.heap.size w0 w -> (∀ i t, i < m -> dstOf ops i = some t -> post i (q t) w) -> wpOps P ops Q ((List.range' m (ops.size - m))) (frm a0 ds q) w) :
    (Code.region id ops true).wp P Q a0 w0 := by
  have hs := shape_of hsh; refine wp_region_any hmo ?_
  have hb0 : Below w0.heap.size w0 { w0 with drawn := w0.drawn + 1 } := ⟨rfl, rfl, rfl, Nat.le_refl _, fun _ _ => rfl⟩
  refine wpAny_invA (fun k l a w => k = leftA l /\ ((∃ q, a = frm a0 ds q /\ Early ops m w0 post l q w) \/ (l.size = ops.size /\ ∃ j, m <= j /\ j <= ops.size /\ (∀ i, doneAt l i ↔ i < j) /\ wpOps P ops Q (List.range' j (ops.size - j)) a w))) ?_ _ _ _ _ ⟨?_, .inl ⟨_, (frm_start a0 ds).symm, ?_⟩⟩
  · rintro k l a w ⟨hk, hI⟩
    have hlsz : l.size = ops.size := hI.elim (fun ⟨_, _, hE⟩ => hE.size) (fun ⟨h, _⟩ => h)
    refine ⟨fun hr => ?_, fun h0 => ?_, fun k' hk' i hi => ?_⟩
    · rcases hI with ⟨q, rfl, hE⟩ | ⟨_, j, hj1, hj2, hd, hw⟩
      · exact absurd hr (ready_early hs hE.size hs.lt (hE.later m (Nat.le_refl _)))
      · by_cases hjs : j = ops.size
        · subst hjs
          rw [Nat.sub_self] at hw; exact hw
        · exact absurd hr (ready_early hs hlsz (j := j) (by omega) (fun h => by have := (hd j).1 h; omega))
    · cases hr : Region.ready .any ops l with
      | nil => rfl
      | cons x xs =>
        have hx := (ready_iff hlsz (i := x)).1 (by rw [hr]; exact List.mem_cons_self)
        exact absurd (left_zeroA (by omega) (by omega)) hx.2.1
    · obtain ⟨h1, h2, h3⟩ := (ready_iff hlsz).1 hi
      have ho : ops[i]? = some ops[i] := Array.getElem?_eq_getElem h1
      have hgd := hs.guard i _ ho; have hleft := left_setA (by omega : i < l.size) h2
      have late : ∀ (j : Nat) (a : Act) (w : World), m <= j -> j <= ops.size -> (∀ i, doneAt l i ↔ i < j) -> wpOps P ops Q (List.range' j (ops.size - j)) a w -> wpOp P ops Q i (fun a' w' => k' = leftA (l.setIfInBounds i true) /\ ((∃ q, a' = frm a0 ds q /\ Early ops m w0 post (l.setIfInBounds i true) q w') \/ ((l.setIfInBounds i true).size = ops.size /\ ∃ j, m <= j /\ j <= ops.size /\ (∀ i', doneAt (l.setIfInBounds i true) i' ↔ i' < j) /\ wpOps P ops Q (List.range' j (ops.size - j)) a' w'))) a w := by
        intro j a w hj1 hj2 hd hw
        have hij : i = j := by
          have hge : j <= i := by
            rcases Nat.lt_or_ge i j with h | h
            · exact absurd ((hd i).2 h) h2
            · exact h
          rcases Nat.lt_or_ge j i with h | h
          · rcases hs.late i j (by omega) h1 h with h4 | h4
            · omega
            · have := (hd j).1 (h3 j h4); omega
          · omega
        subst hij; rw [show ops.size - i = (ops.size - (i + 1)) + 1 by omega, List.range'_succ, wpOps_cons] at hw
        refine wpOp_mono (fun a' w' h' => ⟨by omega, .inr ⟨by rw [Array.size_setIfInBounds]; exact hlsz, i + 1, by omega, by omega, fun i' => ?_, h'⟩⟩) hw
        rw [done_set (by omega), hd]
        omega
      rcases hI with ⟨q, rfl, hE⟩ | ⟨_, j, hj1, hj2, hd, hw⟩
      · by_cases him : i < m
        · obtain ⟨t, ht, hdt, hts, hne⟩ := hs.dst i _ him ho
          have hst := step i _ him ho q w hE.below (fun k t' hk ht' => by
            have hkd := h3 k hk
            have hkm : k < m := by
              rcases Nat.lt_or_ge k m with h | h
              · exact h
              · exact absurd hkd (hE.later k h)
            exact hE.posts k t' hkm hkd ht')
          unfold wpOp; rw [ho]
          show if Region.wanted ops[i] (yielded ops (frm a0 ds q).tmps) = true then _ else _
          rw [if_pos (by unfold Region.wanted; rw [hgd])]
          refine .inl (Oper.wp_mono ?_ hst)
          rintro a' w' ⟨v, rfl, hb, hp⟩
          rw [ht, frm_put hdt]; refine ⟨by omega, .inl ⟨_, rfl, ⟨by rw [Array.size_setIfInBounds]; exact hlsz, fun i' hi' hd' => ?_, fun i' k0 hd' hk0 => ?_, hE.below.trans (hb.mono hE.below.size), fun i' t' hi' hd' ht' => ?_⟩⟩⟩
          · rcases (done_set (by omega)).1 hd' with h | h
            · omega
            · exact hE.later i' hi' h
          · rw [done_set (by omega)]
            rcases (done_set (by omega)).1 hd' with h | h
            · subst h; exact .inr (h3 k0 hk0)
            · exact .inr (hE.closed i' k0 h hk0)
          · by_cases hii : i' = i
            · subst hii
              have : t' = t := by
                unfold dstOf at ht'; rw [ho] at ht'; exact Option.some.inj (ht'.symm.trans ht)
              subst this; rw [setV_same]; exact hp
            · rcases (done_set (by omega)).1 hd' with h | h
              · exact absurd h hii
              · rw [setV_other (fun e => hne i' hi' hii (by rw [ht', e]))]
                exact stable i' _ w w' hi' (hE.posts i' t' hi' h ht') hb
        · have him2 : i = m := by
            rcases Nat.lt_or_ge m i with h | h
            · rcases hs.late i m (by omega) h1 h with h4 | h4
              · omega
              · exact absurd (h3 m h4) (hE.later m (Nat.le_refl _))
            · omega
          subst him2; have hall := all_early hs hE.closed h3
          exact late i _ w (Nat.le_refl _) (by omega) (fun i' => ⟨fun h => by
            rcases Nat.lt_or_ge i' i with h' | h'
            · exact h'
            · exact absurd h (hE.later i' h'), fun h => hall i' h⟩) (last q w hE.below fun i' t' hi' ht' => hE.posts i' t' hi' (hall i' hi') ht')
      · exact late j a w hj1 hj2 hd hw
  · unfold leftA
    simp
  · have hnd : ∀ i, ¬ doneAt (Array.replicate ops.size false) i := fun i h => by
      unfold doneAt at h; rw [Array.getElem?_replicate] at h
      split at h <;> cases h
    exact ⟨by simp, fun i _ => hnd i, fun i _ h => absurd h (hnd i), hb0, fun i _ _ h => absurd h (hnd i)⟩
end
theorem op_val {P : Program} {o : Oper} {a : Act} {w w' : World} {v : Value} {post : Value -> World -> Prop} {Q : Exit -> Act -> World -> Prop} (hr : (execOp a.eval o).run P w = .ok (.value v) w') (hb : Below w.heap.size w w') (hp : post v w') : Oper.wp P o a w (fun a' w' => ∃ v, a' = a.put o.dst v /\ Below w.heap.size w w' /\ post v w') Q := by
  unfold Oper.wp; rw [hr]; exact ⟨v, rfl, hb, hp⟩
theorem op_call {P : Program} {o : Oper} {a : Act} {w : World} {f : FuncId} {args : Array Value} {post : Value -> World -> Prop} {Q : Exit -> Act -> World -> Prop} (hr : (execOp a.eval o).run P w = .ok (.enter f args) w) (hc : Calls P f args w fun e w' => ∃ v, e = .returned v /\ Below w.heap.size w w' /\ post v w') : Oper.wp P o a w (fun a' w' => ∃ v, a' = a.put o.dst v /\ Below w.heap.size w w' /\ post v w') Q := by
  unfold Oper.wp; rw [hr]; refine hc.mono ?_
  rintro e w' ⟨v, rfl, hb, hp⟩
  exact ⟨v, rfl, hb, hp⟩
theorem op_atR {P : Program} {ops : Array Oper} {Q : Exit -> Act -> World -> Prop} {i : Nat} {K : Act -> World -> Prop} {a : Act} {w : World} {o : Oper} (ho : ops[i]? = some o) (hg : o.guard = none) (h : o.wp P a w K Q) : wpOp P ops Q i K a w := by
  unfold wpOp; rw [ho]
  show if Region.wanted o (yielded ops a.tmps) = true then _ else _
  rw [if_pos (by unfold Region.wanted; rw [hg])]
  exact .inl h
theorem late_put {a : Act} {ds : List Nat} {q : Nat -> Value} {o : Oper} {v : Value} (t : Nat) (hd : o.dst = some t) (hc : ds.contains t = true) : (frm a ds q).put o.dst v = frm a ds (setV q t v) := by rw [hd, frm_put hc]
theorem op_run {P : Program} {o : Oper} {a : Act} {w w' : World} {v : Value} {K : Act -> World -> Prop} {Q : Exit -> Act -> World -> Prop} (hr : (execOp a.eval o).run P w = .ok (.value v) w') (h : K (a.put o.dst v) w') : Oper.wp P o a w K Q := by
  unfold Oper.wp; rw [hr]; exact h
theorem op_skip {P : Program} {o : Oper} {a : Act} {w w' : World} {K : Act -> World -> Prop} {Q : Exit -> Act -> World -> Prop} (hd : o.dst = none) (hr : (execOp a.eval o).run P w = .ok .skip w') (h : K a w') : Oper.wp P o a w K Q := by
  unfold Oper.wp; rw [hr]
  show K (a.put o.dst undef) w'
  rw [hd]; exact h
end Go.Proofs.YtjdfdmamonjnoaaGreatDoor
namespace Go.Proofs.YtjdfdmamonjnoaaGreatDoor
open Go.ChangeShapes Go.WideShapes Go.ChangeAt Go.RowKit Go.Deep
open Terms
set_option maxHeartbeats 6400000
set_option maxRecDepth 20000
theorem take_flat {ts : List (List (Int × Int))} {i : Nat} (hi : i < ts.length) : (ts.take (i + 1)).flatten = (ts.take i).flatten ++ ts.getD i [] := by
  rw [List.take_succ_eq_append_getElem hi, List.flatten_append]; simp [List.getD_eq_getElem?_getD, hi]
theorem joined_any (kind : Int) (v : Value) (ts : List (List (Int × Int))) (w : World) (hn : ts.length <= 10) (hl : ∀ i, i <= ts.length -> (ts.take i).flatten.length <= 200) (hne : ∀ i, i < ts.length -> ts.getD i [] ≠ []) (hV : TermsV w v ts) :
    Calls Tryz.prog 37 #[.int .i64 kind, v] w fun e w' => ∃ v', e = .returned v' /\ Below w.heap.size w w' /\ w'.ownsRow w.heap.size 110 2 v' ((kind, 0) :: ts.flatten).length (flat ((kind, 0) :: ts.flatten)) := by
  obtain ⟨i0, hi, hz0, hz1, hz2⟩ := info_parts infoOp; obtain ⟨va, vc, rfl, hat⟩ := hV; obtain ⟨n, hnn⟩ : ∃ n, n = ts.length := ⟨_, rfl⟩
  have HN : Hid (n = ts.length) := hnn; have HL := (show Hid _ from hl)
  have HNE := (show Hid _ from hne)
  have HA := (show Hid _ from hat)
  rw [<- hnn] at hn ⊢; clear hl hne hat hnn
  go_enter Tryz.func37, Tryz.ntmps37
  go_wp2_with fail
  go_loopw [5, 6] (fun out c wr => ∃ i : Nat, i <= n /\ c = .int .i64 i /\ wr.ownsRow w.heap.size 110 2 out ((ts.take i).flatten.length + 1) (flat ((kind, 0) :: (ts.take i).flatten)) /\ Below w.heap.size w wr) (fun _ c _ => n - (intOf c).toNat)
  case atStart => exact ⟨0, Nat.zero_le _, rfl, World.ownsRow_lit w #[.int .i64 kind, .int .i64 0] 1 (Nat.le_refl _) (by unfold maxLen; omega) rfl, (Below.refl _ _).alloc (Nat.le_refl _) _⟩
  case round =>
    obtain ⟨i, hile, rfl, hown, hbel⟩ := hrel
    by_cases hlt : i < n
    · have hlt' : i < ts.length := by rw [<- HN.out]; exact hlt
      obtain ⟨b, off, rfl, hbl, hcs⟩ := HA.out (by intro h; rw [h] at hlt'; simp at hlt')
      obtain ⟨u, hu, hou⟩ := hcs i hlt'; have hcu := (hbel.cell (p := ⟨b, off + i, none⟩) hbl).trans hu; obtain ⟨ua, uc, hus, _, huat⟩ := hou.below hbel; obtain ⟨ub, uoff, rfl, hubl, huat⟩ := huat (HNE.out i hlt'); have HS : Hid ((ts.take (i + 1)).flatten = (ts.take i).flatten ++ ts.getD i []) := take_flat hlt'; have hl1 := HL.out (i + 1) (by omega)
      rw [HS.out, List.length_append] at hl1; have HC : Hid (∀ j x, (flat (ts.getD i []))[j]? = some x -> wr.cell? ((⟨ub, uoff, none⟩ : Addr).add j) = some x) := huat.cells
      obtain ⟨m, hm⟩ : ∃ m, m = (ts.getD i []).length := ⟨_, rfl⟩
      have HM : Hid (m = (ts.getD i []).length) := hm; rw [<- hm] at hus hl1; subst hus; obtain ⟨q, hq⟩ : ∃ q, q = (ts.take i).flatten.length := ⟨_, rfl⟩
      have HQ : Hid (q = (ts.take i).flatten.length) := hq; rw [<- hq] at hown hl1; clear hou hu hcs huat hm hq hlt'; generalize ts.getD i [] = tt at HC HM HS
      go_wp2_with (at_builtin; refine wpList_append_own _ rfl (.tmp 16) (.tmp 20) 32 rfl w.heap.size 110 i0 (.agg #[.int .i64 0, .int .i64 0]) 2 16 Tryz.underlying32 hi hz0 hz1 hz2 rfl (by decide) _ _ _ rfl hown ⟨ub, uoff, none⟩ m uc (flat tt) rfl ?c0 HC.out (flat_one _) ?c3 ?c4 ?c5 ?_)
      case c0 => rw [flat_length, HM.out]
      case c3 => unfold maxLen; omega
      case c4 => omega
      case c5 => exact hbel.size
      intro v' w4 hown' hgrow _; have hb4 : Below w.heap.size w w4 := hbel.grown hgrow hbel.size (fun k hk => (hown.lt k hk).1)
      have ho4 : w4.ownsRow w.heap.size 110 2 v' ((ts.take (i + 1)).flatten.length + 1) (flat ((kind, 0) :: (ts.take (i + 1)).flatten)) := by
        have e1 : (ts.take (i + 1)).flatten.length + 1 = q + 1 + m := by rw [HS.out, List.length_append, <- HQ.out, <- HM.out]; omega
        have e2 : flat ((kind, 0) :: (ts.take (i + 1)).flatten) = flat ((kind, 0) :: (ts.take i).flatten) ++ flat tt := by rw [HS.out, <- flat_append]; rfl
        rw [e1, e2]; exact hown'
      clear hown' hgrow hown
      go_wp2
      go_roundw
      case rel => exact ⟨i + 1, by omega, by go_num, ho4, hb4⟩
      case measure => simp [intOf]; omega
    · have hin : i = n := by omega
      subst hin; rw [show ts.take i = ts by rw [HN.out, List.take_length]] at hown
      clear hlt hile
      go_wp2_with fail
      go_ret
      exact ⟨_, rfl, hbel, hown⟩
theorem joined2 (kind : Int) (g : Nat) (lv mv : Value) (l m : List (Int × Int)) (w : World) (hc : w.cell? ⟨g, 0, none⟩ = some lv) (hd : w.cell? ⟨g, 1, none⟩ = some mv) (hl : l.length <= 60) (hm : m.length <= 60) (hne : l ≠ []) (hne2 : m ≠ []) (hV : OpsV w lv l) (hM : OpsV w mv m) :
    Calls Tryz.prog 37 #[.int .i64 kind, .slice (some ⟨g, 0, none⟩) 2 2] w fun e w' => ∃ a c, e = .returned (.slice a ((kind, 0) :: (l ++ m)).length c) /\ Below w.heap.size w w' /\ OpsV w' (.slice a ((kind, 0) :: (l ++ m)).length c) ((kind, 0) :: (l ++ m)) := by
  have hT : TermsV w (.slice (some ⟨g, 0, none⟩) 2 2) [l, m] := ⟨_, 2, rfl, fun _ => ⟨g, 0, rfl, World.block_lt_of_cell? w ⟨g, 0, none⟩ hc, fun i hi => by
    have : i = 0 \/ i = 1 := by simp at hi; omega
    rcases this with rfl | rfl
    · exact ⟨lv, hc, hV⟩
    · exact ⟨mv, hd, hM⟩⟩⟩
  refine (joined_any kind _ [l, m] w (by simp) (fun i hi => ?_) (fun i hi => ?_) hT).mono fun e w' ⟨v', he, hb, ho⟩ => ?_
  · have : i = 0 \/ i = 1 \/ i = 2 := by simp at hi; omega
    rcases this with rfl | rfl | rfl <;> simp <;> omega
  · have : i = 0 \/ i = 1 := by simp at hi; omega
    rcases this with rfl | rfl
    · exact hne
    · exact hne2
  · have h2 : [l, m].flatten = l ++ m := by simp
    rw [h2] at ho; obtain ⟨a, c, rfl⟩ := owns_slice ho; exact ⟨a, c, he, hb, opsV_of_owns ho⟩
end Go.Proofs.YtjdfdmamonjnoaaGreatDoor
namespace Go.Proofs.YtjdfdmamonjnoaaGreatDoor
open Go.ChangeShapes Go.WideShapes Go.ChangeAt Go.RowKit Go.Deep
open Terms Tm
set_option maxHeartbeats 6400000
set_option maxRecDepth 20000
def tp0 : Tm := .bi 7 0 (.leaf 2 0) (.leaf 1 1)
def tp1 : Tm := .bi 7 0 (.leaf 2 0) (.leaf 2 1)
def tp2 : Tm := .bi 6 0 (.leaf 2 0) (.leaf 2 1)
def propsL : List (List (Int × Int)) := [[(7, 0), (2, 0), (1, 1)], [(7, 0), (2, 0), (2, 1)], [(6, 0), (2, 0), (2, 1)]]
theorem tp0_good : tp0.Good 2 := ⟨by decide, by decide, rfl, .inr (.inl ⟨rfl, by decide, by decide⟩), .inl ⟨rfl, by decide, by decide⟩⟩
theorem tp1_good : tp1.Good 2 := ⟨by decide, by decide, rfl, .inr (.inl ⟨rfl, by decide, by decide⟩), .inr (.inl ⟨rfl, by decide, by decide⟩)⟩
theorem tp2_good : tp2.Good 2 := ⟨by decide, by decide, rfl, .inr (.inl ⟨rfl, by decide, by decide⟩), .inr (.inl ⟨rfl, by decide, by decide⟩)⟩
theorem prop_code {T : Tm} (hg : T.Good 2) (h60 : T.size <= 60) (ht : T.typed = true) (hk : mkT T.kind = true) : kcode 2 T.ops true = 0 := by
  rw [kcode_tree (by decide) (by decide) hg h60 ht, if_pos hk]
theorem props_code {m : Mo} (hm : mcode m = 0) (hv : m.vars.length = 2) : pcode m propsL = 0 := by
  unfold pcode; rw [if_pos hm, if_neg (by decide)]
  refine firstOf_none fun j hj => ?_
  rw [hv]; have : j = 0 \/ j = 1 \/ j = 2 := by simp [propsL] at hj; omega
  rcases this with rfl | rfl | rfl
  · exact prop_code tp0_good (by decide) (by decide) (by decide)
  · exact prop_code tp1_good (by decide) (by decide) (by decide)
  · exact prop_code tp2_good (by decide) (by decide) (by decide)
section
variable {a b : Vr} {w : World} {va vr pv : Value}
end
theorem ops_one (w : World) (k v : Int) : OpsV (w.alloc (.cells #[.int .i64 k, .int .i64 v] 110)) (.slice (some ⟨w.heap.size, 0, none⟩) 1 1) [(k, v)] := by
  refine ⟨_, 1, rfl, ⟨Nat.le_refl _, fun h => by cases h⟩, fun _ => ⟨w.heap.size, 0, rfl, by simp, fun i hi => ?_⟩⟩
  obtain rfl : i = 0 := by simpa using hi
  constructor <;> simp [go_sem]
theorem OpsV.al {w : World} {v : Value} {l : List (Int × Int)} (h : OpsV w v l) (o : Obj) : OpsV (w.alloc o) v l := h.below ((Below.refl _ _).alloc (Nat.le_refl _) o)
theorem propsFn_any (w : World) :
    Calls Tryz.prog 26 #[] w fun e w' => ∃ pb, e = .returned (.slice (some ⟨pb, 0, none⟩) 3 3) /\ Below w.heap.size w w' /\ TermsV w' (.slice (some ⟨pb, 0, none⟩) 3 3) propsL := by
  have tk1 := True.intro; have tk2 := True.intro; have tk3 := True.intro; have hA : ∀ o1 o2 o3 o4, Below w.heap.size w ((((w.alloc o1).alloc o2).alloc o3).alloc o4) := fun o1 o2 o3 o4 => ((((Below.refl _ _).alloc (Nat.le_refl _) _).alloc (by simp) _).alloc (by simp; omega) _).alloc (by simp; omega) _
  have hX : ∀ o2 o3 o4, OpsV ((((w.alloc (.cells #[.int .i64 2, .int .i64 0] 110)).alloc o2).alloc o3).alloc o4) (.slice (some ⟨w.heap.size, 0, none⟩) 1 1) [(2, 0)] := fun o2 o3 o4 => (((ops_one w 2 0).al o2).al o3).al o4
  have hY : ∀ o1 o3 o4, OpsV ((((w.alloc o1).alloc (.cells #[.int .i64 2, .int .i64 1] 110)).alloc o3).alloc o4) (.slice (some ⟨w.heap.size + 1, 0, none⟩) 1 1) [(2, 1)] := fun o1 o3 o4 => by
    have := ((ops_one (w.alloc o1) 2 1).al o3).al o4; rw [World.size_alloc] at this; exact this
  have hN : ∀ o1 o2 o4, OpsV ((((w.alloc o1).alloc o2).alloc (.cells #[.int .i64 1, .int .i64 1] 110)).alloc o4) (.slice (some ⟨w.heap.size + 1 + 1, 0, none⟩) 1 1) [(1, 1)] := fun o1 o2 o4 => by
    have := (ops_one ((w.alloc o1).alloc o2) 1 1).al o4; rw [World.size_alloc, World.size_alloc] at this; exact this
  go_enter Tryz.func26, Tryz.ntmps26
  go_wp2_with (first | (clear tk1; go_at_call 37; refine (joined2 7 _ (.slice (some ⟨w.heap.size, 0, none⟩) 1 1) (.slice (some ⟨w.heap.size + 1 + 1, 0, none⟩) 1 1) [(2, 0)] [(1, 1)] _ (by simp [go_sem]) (by simp [go_sem]) (by simp) (by simp) (by simp) (by simp) (hX _ _ _) (hN _ _ _)).mono ?_; rintro e w5 ⟨a1, c1, rfl, hb5, hp1⟩; have hx5 := (hX _ _ _).below hb5; have hy5 := (hY _ _ _).below hb5; have hbw5 := (hA _ _ _ _).trans (hb5.mono (hA _ _ _ _).size)) | (clear tk2; go_at_call 37; refine (joined2 7 _ (.slice (some ⟨w.heap.size, 0, none⟩) 1 1) (.slice (some ⟨w.heap.size + 1, 0, none⟩) 1 1) [(2, 0)] [(2, 1)] _ (by simp [go_sem]) (by simp [go_sem]) (by simp) (by simp) (by simp) (by simp) (hx5.al _) (hy5.al _)).mono ?_; rintro e w6 ⟨a2, c2, rfl, hb6, hp2⟩; have hx6 := (hx5.al _).below hb6; have hy6 := (hy5.al _).below hb6; have hq6 := (hp1.al _).below hb6) | (clear tk3; go_at_call 37; refine (joined2 6 _ (.slice (some ⟨w.heap.size, 0, none⟩) 1 1) (.slice (some ⟨w.heap.size + 1, 0, none⟩) 1 1) [(2, 0)] [(2, 1)] _ (by simp [go_sem]) (by simp [go_sem]) (by simp) (by simp) (by simp) (by simp) (hx6.al _) (hy6.al _)).mono ?_; rintro e w7 ⟨a3, c3, rfl, hb7, hp3⟩; have hq7 := (hq6.al _).below hb7; have hr7 := (hp2.al _).below hb7))
  go_ret
  have h6 : Below w.heap.size w w6 := (hbw5.alloc hbw5.size _).trans (hb6.mono (hbw5.alloc hbw5.size _).size); have h7 : Below w.heap.size w w7 := (h6.alloc h6.size _).trans (hb7.mono (h6.alloc h6.size _).size); refine ⟨w7.heap.size, rfl, h7.alloc h7.size _, _, 3, rfl, fun _ => ⟨w7.heap.size, 0, rfl, by simp, fun i hi => ?_⟩⟩
  have : i = 0 \/ i = 1 \/ i = 2 := by simp [propsL] at hi; omega
  rcases this with rfl | rfl | rfl
  · exact ⟨_, by simp [go_sem], hq7.al _⟩
  · exact ⟨_, by simp [go_sem], hr7.al _⟩
  · exact ⟨_, by simp [go_sem], hp3.al _⟩
end Go.Proofs.YtjdfdmamonjnoaaGreatDoor
namespace Go.Proofs.YtjdfdmamonjnoaaGreatDoor
open Go.ChangeShapes Go.WideShapes Go.ChangeAt Go.RowKit Go.Deep
open Terms
set_option maxHeartbeats 6400000
set_option maxRecDepth 20000
end Go.Proofs.YtjdfdmamonjnoaaGreatDoor
namespace Go.Proofs.YtjdfdmamonjnoaaGreatDoor
open Go.ChangeShapes Go.WideShapes Go.ChangeAt Go.RowKit Go.Deep Go.Joins
open Terms
set_option maxHeartbeats 6400000
set_option maxRecDepth 20000
section
variable {H : Type} {enc : TypeId × Value -> H} {W : World}
end
end Go.Proofs.YtjdfdmamonjnoaaGreatDoor
namespace Go.Proofs.YtjdfdmamonjnoaaGreatDoor
open Go.ChangeShapes Go.WideShapes Go.ChangeAt Go.RowKit Go.Deep
open Terms
set_option maxHeartbeats 6400000
set_option maxRecDepth 20000
end Go.Proofs.YtjdfdmamonjnoaaGreatDoor
namespace Go.Proofs.YtjdfdmamonjnoaaGreatDoor
open Go.ChangeShapes Go.WideShapes Go.ChangeAt Go.RowKit Go.Deep Go.Joins
open Terms
set_option maxHeartbeats 6400000
set_option maxRecDepth 20000
theorem Raws.up {w w' : World} {v : Value} {rs : List (Int × Int)} (h : Raws w w.heap.size v rs) (hb : Below w.heap.size w w') : Raws w' w'.heap.size v rs := by
  obtain ⟨⟨ao, cap, hv, h1⟩, h2, h3⟩ := h; refine ⟨⟨ao, cap, hv, fun hne => ?_⟩, h2, h3⟩
  obtain ⟨b, off, ha, hlt, hat⟩ := h1 hne; exact ⟨b, off, ha, Nat.lt_of_lt_of_le hlt hb.size, hat.below hb hlt⟩
section
variable {H : Type} {enc : TypeId × Value -> H} {W : World}
end
end Go.Proofs.YtjdfdmamonjnoaaGreatDoor
namespace Go.Proofs.YtjdfdmamonjnoaaGreatDoor
open Go.ChangeShapes Go.WideShapes Go.ChangeAt Go.RowKit Go.Deep
open Terms Tm
set_option maxHeartbeats 6400000
set_option maxRecDepth 20000
theorem rcode_guard {r : Ru} (h : rcode 2 r = 0) : r.guard ≠ [] := by
  intro e
  have hx : ∀ t, xcode 2 [] t ≠ 0 := fun t => by
    unfold xcode; rw [if_neg (by decide)]
    have : endsCode (([] : List (Int × Int)).map Prod.fst) ≠ 0 := fun h0 => (ends_ne h0).1 rfl
    rw [if_pos this]; exact this
  unfold rcode at h; rw [e] at h
  have hk : kcode 2 [] true ≠ 0 := by
    unfold kcode; rw [if_neg (hx _)]; exact hx _
  split at h
  · exact absurd h (by decide)
  · exact hk h
structure NilTo (g : Nat) (w w' : World) : Prop where
  size : w.heap.size <= w'.heap.size
  nil : ∀ i v, w.cell? ⟨g, i, none⟩ = some v -> v = .slice none 0 0
  block : ∀ b, b ≠ g -> w'.heap[b]? = w.heap[b]?
theorem NilTo.ne {g : Nat} {w w' : World} (h : NilTo g w w') {b i : Nat} {v : Value} (hc : w.cell? ⟨b, i, none⟩ = some v) (hv : v ≠ .slice none 0 0) : b ≠ g := by
  rintro rfl
  exact hv (h.nil i v hc)
theorem NilTo.cell {g : Nat} {w w' : World} (h : NilTo g w w') {b : Nat} (hb : b ≠ g) (i : Nat) : w'.cell? ⟨b, i, none⟩ = w.cell? ⟨b, i, none⟩ := World.cell?_of_block (h.block b hb)
theorem OpsV.nilTo {g : Nat} {w w' : World} {v : Value} {l : List (Int × Int)} (h : OpsV w v l) (hn : NilTo g w w') : OpsV w' v l := by
  obtain ⟨ao, cap, rfl, h0, h⟩ := h; refine ⟨ao, cap, rfl, h0, fun hne => ?_⟩
  obtain ⟨b, off, rfl, hlt, hat⟩ := h hne; refine ⟨b, off, rfl, Nat.lt_of_lt_of_le hlt hn.size, fun i hi => ?_⟩
  have hb := hn.ne (hat i hi).1 (by simp)
  exact ⟨(hn.cell hb _).trans (hat i hi).1, (hn.cell hb _).trans (hat i hi).2⟩
theorem VarsV.nilTo {g : Nat} {w w' : World} {v : Value} {l : List Vr} (h : VarsV w v l) (hn : NilTo g w w') : VarsV w' v l := SlV.imp h hn.size fun b off i _ _ hi => by
  obtain ⟨h1, h2, h3, h4⟩ := hi; have hb := hn.ne h2 (by simp)
  exact ⟨(hn.cell hb _).trans h1, (hn.cell hb _).trans h2, (hn.cell hb _).trans h3, (hn.cell hb _).trans h4⟩
theorem SetsV.nilTo {g : Nat} {w w' : World} {v : Value} {l : List St} (h : SetsV w v l) (hn : NilTo g w w') : SetsV w' v l := SlV.imp h hn.size fun b off i _ _ hi => by
  obtain ⟨h1, u, h2, h3⟩ := hi; have hb := hn.ne h1 (by simp)
  exact ⟨(hn.cell hb _).trans h1, u, (hn.cell hb _).trans h2, h3.nilTo hn⟩
theorem RulesV.nilTo {g : Nat} {w w' : World} {v : Value} {l : List Ru} (h : RulesV w v l) (hg : ∀ j, j < l.length -> (l.getD j ru0).guard ≠ []) (hn : NilTo g w w') : RulesV w' v l := SlV.imp h hn.size fun b off i _ hi hx => by
  obtain ⟨⟨u, h1, h2⟩, u', h3, h4⟩ := hx
  have hb := hn.ne h1 (by
    obtain ⟨ao, cap, rfl, ⟨_, h0⟩, _⟩ := h2; intro e
    injection e with e _ _
    exact hg i hi (h0 e).2)
  exact ⟨⟨u, (hn.cell hb _).trans h1, h2.nilTo hn⟩, u', (hn.cell hb _).trans h3, h4.nilTo hn⟩
theorem TermsV.nilTo {g : Nat} {w w' : World} {v : Value} {ts : List (List (Int × Int))} (h : TermsV w v ts) (hg : ∀ j, j < ts.length -> ts.getD j [] ≠ []) (hn : NilTo g w w') : TermsV w' v ts := by
  obtain ⟨ao, cap, rfl, h⟩ := h; refine ⟨ao, cap, rfl, fun hne => ?_⟩
  obtain ⟨b, off, rfl, hlt, hat⟩ := h hne; refine ⟨b, off, rfl, Nat.lt_of_lt_of_le hlt hn.size, fun i hi => ?_⟩
  obtain ⟨u, h1, h2⟩ := hat i hi
  have hb := hn.ne h1 (by
    obtain ⟨ao, cap, rfl, ⟨_, h0⟩, _⟩ := h2; intro e
    injection e with e _ _
    exact hg i hi (h0 e).2)
  exact ⟨u, (hn.cell hb _).trans h1, h2.nilTo hn⟩
structure KTaskOk (m : Mo) (l : List (Int × Int)) (mm : Nat) : Prop where
  mo : mcode m = 0
  vars : m.vars.length = 2
  fo : ∃ T, FOk mm l T
  len : l.length <= 59
  many : mm <= 6
theorem KTaskOk.code {m : Mo} {l : List (Int × Int)} {mm : Nat} (h : KTaskOk m l mm) : tkcode m propsL l = 0 := by
  obtain ⟨T, hT⟩ := h.fo; unfold tkcode; rw [props_code h.mo h.vars, if_neg (by simp)]
  exact hT.code (by have := h.len; omega) h.many
theorem taskFn_any (c0 c1 c2 c3 c4 c5 c6 : Value) (a b : Vr) (rawv : Value) (rs : List (Int × Int)) (tempo : Nat) (w : World) (hG : GV a b) (ht : tempo <= 6) (hR : Raws w w.heap.size rawv rs)
    (hmd : ∀ w', Below w.heap.size w w' -> Calls Tryz.prog 19 #[.agg #[c0, c1, c2, c3, c4, c5, c6]] w' fun e w2 => ∃ va vr, e = .returned (.agg #[va, vr]) /\ Below w'.heap.size w' w2 /\ GModel w2 va vr [a, b]) :
    Calls Tryz.prog 9 #[.agg #[c0, c1, c2, c3, c4, c5, c6], rawv, .int .i64 (tempo : Int)] w fun e w' => ∃ ao ac ro rn rc pb fo fn fc m l mm, e = .returned (.agg #[.slice ao 2 ac, .slice ro rn rc, .slice (some ⟨pb, 0, none⟩) 3 3, .slice fo fn fc]) /\ Below w.heap.size w w' /\ Hid (TaskV w' (.slice ao 2 ac) (.slice ro rn rc) (.slice (some ⟨pb, 0, none⟩) 3 3) (.slice fo fn fc) m propsL l) /\ Hid (KTaskOk m l mm /\ m.vars = [a, b] /\ l.length = fn /\ l ≠ []) /\ mm <= tempo /\ fn <= 17 := by
  have HMd : Hid (∀ w', Below w.heap.size w w' -> Calls Tryz.prog 19 #[.agg #[c0, c1, c2, c3, c4, c5, c6]] w' fun e w2 => ∃ ao ac ro rn rc m, e = .returned (.agg #[.slice ao 2 ac, .slice ro rn rc]) /\ Below w'.heap.size w' w2 /\ Hid (ModelV w2 (.slice ao 2 ac) (.slice ro rn rc) m /\ mcode m = 0 /\ m.vars = [a, b] /\ ∀ j, j < m.rules.length -> (m.rules.getD j ru0).guard ≠ [])) := fun w' h => (hmd w' h).mono fun e w2 ⟨va, vr, h1, h2, h3⟩ => by
    obtain ⟨ao, ac, ro, rn, rc, rfl, rfl, _⟩ := h3.shape; obtain ⟨rules, g1, g2, g3⟩ := h3; exact ⟨ao, ac, ro, rn, rc, _, h1, h2, g1, hG.mcode (by omega) g3, rfl, fun j hj => rcode_guard (g3 j hj)⟩
  have HPr : Hid (∀ w', Calls Tryz.prog 26 #[] w' fun e w2 => ∃ pb, e = .returned (.slice (some ⟨pb, 0, none⟩) 3 3) /\ Below w'.heap.size w' w2 /\ Hid (TermsV w2 (.slice (some ⟨pb, 0, none⟩) 3 3) propsL)) := fun w' => (propsFn_any w').mono fun e w2 ⟨pb, h1, h2, h3⟩ => ⟨pb, h1, h2, h3⟩
  have HFo : Hid (∀ w', Below w.heap.size w w' -> Calls Tryz.prog 14 #[rawv, .int .i64 3, .int .i64 (tempo : Int)] w' fun e w2 => ∃ fo fn fc l mm, e = .returned (.slice fo fn fc) /\ mm <= tempo /\ fn <= 17 /\ Below w'.heap.size w' w2 /\ Hid (OpsV w2 (.slice fo fn fc) l /\ (∃ T, FOk mm l T) /\ l.length = fn /\ l ≠ [])) := fun w' h => (formulaFn_any rawv rs 3 tempo w' (by decide) (by decide) (by omega) (hR.up h)).mono fun e w2 ⟨fo, fc, l, mm, h1, h2, h3, h4, h5, h6⟩ => ⟨fo, l.length, fc, l, mm, h1, h3, h4, h6, h5, h2.ok, rfl, h2.ne⟩
  obtain ⟨ra, rn0, rc0, hra⟩ : ∃ a n c, rawv = .slice a n c := by obtain ⟨⟨a, c, h, _⟩, _, _⟩ := hR; exact ⟨_, _, _, h⟩
  subst hra; clear hmd hR; obtain ⟨W1, hW1⟩ : ∃ W1, W1 = (w.alloc (.cells #[c0, c1, c2, c3, c4, c5, c6] 25)).alloc (.cells #[.slice none 0 0, .slice none 0 0, .slice none 0 0, .slice none 0 0] 34) := ⟨_, rfl⟩
  have hb1 : Below w.heap.size w W1 := by rw [hW1]; exact ((Below.refl _ _).alloc (Nat.le_refl _) _).alloc (by simp) _
  have hmo := HMd.out W1 hb1
  have HBx : Hid (∀ w', Below (w.heap.size + 2) W1 w' -> (w'.cell? ⟨w.heap.size + 1, 0, none⟩ = some (.slice none 0 0) /\ w'.cell? ⟨w.heap.size + 1, 1, none⟩ = some (.slice none 0 0) /\ w'.cell? ⟨w.heap.size + 1, 2, none⟩ = some (.slice none 0 0) /\ w'.cell? ⟨w.heap.size + 1, 3, none⟩ = some (.slice none 0 0)) /\ (w'.frozen? ⟨w.heap.size + 1, 0, none⟩ = false /\ w'.frozen? ⟨w.heap.size + 1, 1, none⟩ = false /\ w'.frozen? ⟨w.heap.size + 1, 2, none⟩ = false /\ w'.frozen? ⟨w.heap.size + 1, 3, none⟩ = false)) := fun w' h => by
    have hlt : w.heap.size + 1 < w.heap.size + 2 := by omega
    refine ⟨⟨?_, ?_, ?_, ?_⟩, ?_, ?_, ?_, ?_⟩
    · exact (h.cell (p := ⟨w.heap.size + 1, 0, none⟩) hlt).trans (by rw [hW1]; simp [go_sem])
    · exact (h.cell (p := ⟨w.heap.size + 1, 1, none⟩) hlt).trans (by rw [hW1]; simp [go_sem])
    · exact (h.cell (p := ⟨w.heap.size + 1, 2, none⟩) hlt).trans (by rw [hW1]; simp [go_sem])
    · exact (h.cell (p := ⟨w.heap.size + 1, 3, none⟩) hlt).trans (by rw [hW1]; simp [go_sem])
    · exact (h.frozen (p := ⟨w.heap.size + 1, 0, none⟩) hlt).trans (by rw [hW1]; simp [go_sem])
    · exact (h.frozen (p := ⟨w.heap.size + 1, 1, none⟩) hlt).trans (by rw [hW1]; simp [go_sem])
    · exact (h.frozen (p := ⟨w.heap.size + 1, 2, none⟩) hlt).trans (by rw [hW1]; simp [go_sem])
    · exact (h.frozen (p := ⟨w.heap.size + 1, 3, none⟩) hlt).trans (by rw [hW1]; simp [go_sem])
  have hz1 : W1.heap.size = w.heap.size + 2 := by rw [hW1]; simp
  subst hW1
  go_enter Tryz.func9, Tryz.ntmps9
  go_wp2_with (first
    | (go_at_call 19; refine hmo.mono ?_; rintro e w2 ⟨ao, ac, ro, rn, rc, m, rfl, hb2, HM⟩; have hbw2 := hb1.trans (hb2.mono hb1.size); have hpr := HPr.out w2)
    | (go_at_call 26; refine hpr.mono ?_; rintro e w3 ⟨pb, rfl, hb3, HP⟩; have hbw3 := hbw2.trans (hb3.mono hbw2.size); have hfo := HFo.out w3 hbw3)
    | (go_at_call 14; refine hfo.mono ?_; rintro e w4 ⟨fo, fn, fc, l, mm, rfl, hmm, hfn, hb4, HF⟩; have hbw4 := hbw3.trans (hb4.mono hbw3.size); have hb24 := (hb2.trans (hb3.mono hb2.size)).trans (hb4.mono (Nat.le_trans hb2.size hb3.size)); obtain ⟨⟨k0, k1, k2, k3⟩, g0, g1, g2, g3⟩ := HBx.out w4 (hb24.mono (by omega))))
  have hn : NilTo (w.heap.size + 1) w4 ((((w4.setCell ⟨w.heap.size + 1, 0, none⟩ (.slice ao 2 ac)).setCell ⟨w.heap.size + 1, 1, none⟩ (.slice ro rn rc)).setCell ⟨w.heap.size + 1, 2, none⟩ (.slice (some ⟨pb, 0, none⟩) 3 3)).setCell ⟨w.heap.size + 1, 3, none⟩ (.slice fo fn fc)) := by
    refine ⟨by simp, fun i v hv => ?_, fun b hb => ?_⟩
    · have hblk := (hb24.mono (show w.heap.size + 2 <= _ by omega)).block (w.heap.size + 1) (by omega)
      have hx : ((w.alloc (.cells #[c0, c1, c2, c3, c4, c5, c6] 25)).alloc (.cells #[.slice none 0 0, .slice none 0 0, .slice none 0 0, .slice none 0 0] 34)).cell? ⟨w.heap.size + 1, i, none⟩ = some v := by rw [<- hv]; exact (World.cell?_of_block hblk).symm
      have hy := (MapKept.heap_alloc (w.alloc (.cells #[c0, c1, c2, c3, c4, c5, c6] 25)) (.cells #[.slice none 0 0, .slice none 0 0, .slice none 0 0, .slice none 0 0] 34)).1; rw [World.size_alloc] at hy; simp only [World.cell?, hy] at hx
      have hi : i < 4 := by
        rcases Nat.lt_or_ge i 4 with h | h
        · exact h
        · simp [Array.getElem?_eq_none (show (#[Value.slice none 0 0, .slice none 0 0, .slice none 0 0, .slice none 0 0] : Array Value).size <= i from h)] at hx
      rcases (show i = 0 \/ i = 1 \/ i = 2 \/ i = 3 by omega) with rfl | rfl | rfl | rfl <;> simpa using hx.symm
    · rw [RowKit.Below.heap_setCell _ _ _ _ hb, RowKit.Below.heap_setCell _ _ _ _ hb, RowKit.Below.heap_setCell _ _ _ _ hb, RowKit.Below.heap_setCell _ _ _ _ hb]
  obtain ⟨m1, m2, m3, m4⟩ := HM.out; obtain ⟨f1, f2, f3, f4⟩ := HF.out; have hb34 : Below w2.heap.size w2 w4 := hb3.trans (hb4.mono hb3.size)
  refine bodyPost_ret (v := .agg #[.slice ao 2 ac, .slice ro rn rc, .slice (some ⟨pb, 0, none⟩) 3 3, .slice fo fn fc]) ?_ rfl ⟨ao, ac, ro, rn, rc, pb, fo, fn, fc, m, l, mm, rfl, (((hbw4.setCell (p := ⟨w.heap.size + 1, 0, none⟩) (by simp) _).setCell (p := ⟨w.heap.size + 1, 1, none⟩) (by simp) _).setCell (p := ⟨w.heap.size + 1, 2, none⟩) (by simp) _).setCell (p := ⟨w.heap.size + 1, 3, none⟩) (by simp) _, ⟨⟨(m1.1.below hb34).nilTo hn, (m1.2.below hb34).nilTo m4 hn⟩, (HP.out.below hb4).nilTo (fun j hj => ?_) hn, f1.nilTo hn⟩, ⟨⟨m2, by rw [m3]; rfl, f2, by omega, by omega⟩, m3, f3, f4⟩, hmm, hfn⟩
  · simp [results, Tryz.results9, go_sem, k0, k1, k2, k3]
  · have hj3 : j < 3 := hj
    rcases (show j = 0 \/ j = 1 \/ j = 2 by omega) with rfl | rfl | rfl <;> simp [propsL]
section
variable {m : Mo} {l : List (Int × Int)} {mm : Nat}
end
section
variable {m : Mo} {l : List (Int × Int)}
end
theorem xp_bound {m : Mo} {ps : List (List (Int × Int))} {l : List (Int × Int)} {k P : Nat} (hP : prodTo m.vars m.vars.length = (P : Nat)) (hs : ∀ p ∈ xpP m ps l k, spOk m l p) : (xpP m ps l k).length <= P * 2 ^ (aheadL l).length := by
  have hnd : (xpP m ps l k).Nodup := exS_nodup _ _ k
  have hcode : ∀ p ∈ xpP m ps l k, 0 <= p.1 * ((2 ^ (aheadL l).length : Nat) : Int) + p.2 /\ p.1 * ((2 ^ (aheadL l).length : Nat) : Int) + p.2 < ((P * 2 ^ (aheadL l).length : Nat) : Int) := fun p hp => by
    obtain ⟨⟨h1, h2⟩, d, h3, h4⟩ := hs p hp; generalize 2 ^ (aheadL l).length = N at *; have h5 : p.1 * (N : Int) <= ((P : Int) - 1) * N := Int.mul_le_mul_of_nonneg_right (by omega) (by omega)
    have h6 : 0 <= p.1 * (N : Int) := Int.mul_nonneg h1 (by omega)
    have h7 : ((P : Int) - 1) * (N : Int) = (P : Int) * N - N := by rw [Int.sub_mul]; omega
    have h8 : ((P * N : Nat) : Int) = (P : Int) * N := by push_cast; rfl
    omega
  have hnd2 : ((xpP m ps l k).map fun p => p.1 * ((2 ^ (aheadL l).length : Nat) : Int) + p.2).Nodup := by
    refine List.Pairwise.map _ (fun a b hab => hab) ?_
    refine List.Pairwise.imp_of_mem ?_ hnd
    intro a b ha hb hne e; obtain ⟨_, d, h3, h4⟩ := hs a ha; obtain ⟨_, d', h3', h4'⟩ := hs b hb; generalize 2 ^ (aheadL l).length = N at *; have hN : (0 : Int) < N := by omega
    have e1 : a.2 = b.2 := by
      rw [h4, h4']; have r1 : ((d : Int) + a.1 * N) % (N : Int) = (d : Int) := by rw [Int.add_mul_emod_self_right]; exact Int.emod_eq_of_lt (by omega) (by omega)
      have r2 : ((d' : Int) + b.1 * N) % (N : Int) = (d' : Int) := by rw [Int.add_mul_emod_self_right]; exact Int.emod_eq_of_lt (by omega) (by omega)
      have e' : (d : Int) + a.1 * N = (d' : Int) + b.1 * N := by rw [h4, h4'] at e; omega
      rw [<- r1, <- r2, e']
    have e2 : a.1 * (N : Int) = b.1 * N := by omega
    exact hne (Prod.ext (Int.eq_of_mul_eq_mul_right (by omega) e2) e1)
  have := nodup_length (N := P * 2 ^ (aheadL l).length) hnd2 (fun y hy => by
    obtain ⟨p, hp, rfl⟩ := List.mem_map.1 hy
    exact hcode p hp)
  rw [List.length_map] at this; exact this
theorem xp_few {m : Mo} {ps : List (List (Int × Int))} {l : List (Int × Int)} {P : Nat} (hk : tkcode m ps l = 0) (hP : prodTo m.vars m.vars.length = (P : Nat)) (hz : P * 2 ^ (aheadL l).length <= 20000) : ¬ ExFull m ps l := by
  rintro ⟨k, h1, h2⟩
  have hs : ∀ j, j <= k + 1 -> ∀ p ∈ xpP m ps l j, spOk m l p := fun j => by
    induction j with
    | zero => exact fun _ => xpP_zero hk
    | succ j ih => exact fun hj => xpP_next hk (h1 j (by omega)) (ih (by omega))
  have := xp_bound hP (hs (k + 1) (Nat.le_refl _)); omega
def LetJ (w : World) (g n k : Nat) (ls : List (List Bool)) : Prop := ∃ us : Nat -> Value, w.rowIs g 60 n us /\ (∀ j, j < k -> BoolsV w (us j) (ls.getD j [])) /\ ∀ j, k <= j -> us j = .slice none 0 0
theorem LetJ.later {w w' : World} {g n k : Nat} {ls : List (List Bool)} (h : LetJ w g n k ls) (hb : Below w.heap.size w w') : LetJ w' g n k ls := by
  obtain ⟨us, h1, h2, h3⟩ := h; exact ⟨us, row_later h1 hb, fun j hj => (h2 j hj).below hb, h3⟩
theorem LetJ.put {w : World} {g n k : Nat} {ls : List (List Bool)} {ao : Option Addr} {cn cap : Nat} (h : LetJ w g n k ls) (hk : k < n) (hv : BoolsV w (.slice ao cn cap) (ls.getD k [])) : LetJ (w.setCell ⟨g, k, none⟩ (.slice ao cn cap)) g n (k + 1) ls := by
  obtain ⟨us, h1, h2, h3⟩ := h; have hc : w.cell? ⟨g, k, none⟩ = some (.slice none 0 0) := by rw [h1.cell hk, h3 k (Nat.le_refl _)]
  refine ⟨fun j => if j = k then .slice ao cn cap else us j, h1.set k _, fun j hj => ?_, fun j hj => ?_⟩
  · show BoolsV _ (if j = k then .slice ao cn cap else us j) _
    by_cases e : j = k
    · subst e
      rw [if_pos rfl]; exact hv.setS hc _
    · rw [if_neg e]
      exact (h2 j (by omega)).setS hc _
  · show (if j = k then _ else us j) = _
    rw [if_neg (by omega)]
    exact h3 j (by omega)
theorem LetJ.done {w : World} {g n : Nat} {ls : List (List Bool)} (h : LetJ w g n n ls) (hn : n = ls.length) : LettersV w (.slice (some ⟨g, 0, none⟩) n n) ls := by
  obtain ⟨us, h1, h2, _⟩ := h; subst hn; refine ⟨(List.range ls.length).map us, _, _, rfl, fun h => by simp at h, ⟨by simp, fun i hi => ?_⟩, fun hne => ⟨g, 0, rfl, h1.lt, fun i hi => ?_⟩⟩
  · rw [show ((List.range ls.length).map us).getD i nilV = us i by simp [List.getD_eq_getElem?_getD, hi]]
    exact h2 i hi
  · rw [Nat.zero_add, h1.cell hi]
    simp [List.getD_eq_getElem?_getD, hi]
theorem lettersOf_any (va vr pv fv : Value) (co : Option Addr) (cc : Nat) (m : Mo) (ps : List (List (Int × Int))) (l : List (Int × Int)) (cs : List Int) (w : World) (hB : 0 < w.heap.size) (hT : TabAt w) (hV : TaskV w va vr pv fv m ps l) (hk : tkcode m ps l = 0) (h12 : cs.length <= 12) (hr : ∀ i, i < cs.length -> 0 <= cs.getD i 0 /\ cs.getD i 0 < prodTo m.vars m.vars.length) (hC : IntsV w (.slice co cs.length cc) cs) :
    Calls Tryz.prog 32 #[.agg #[va, vr, pv, fv], .slice co cs.length cc] w fun e w' => ∃ g, e = .returned (.tuple #[.slice (some ⟨g, 0, none⟩) cs.length cs.length, .int .i64 0]) /\ Below w.heap.size w w' /\ Hid (LettersV w' (.slice (some ⟨g, 0, none⟩) cs.length cs.length) (lets m ps cs)) := by
  obtain ⟨ao, ac, rfl⟩ := hV.mo.1.shape; obtain ⟨ro, rc, rfl⟩ := hV.mo.2.shape; obtain ⟨po, pc, rfl⟩ := hV.ps.shape; obtain ⟨fo, fc, rfl, _⟩ := id hV.fo; obtain ⟨W1, hW1⟩ : ∃ W1, W1 = w.alloc (.cells #[.slice ao m.vars.length ac, .slice ro m.rules.length rc, .slice po ps.length pc, .slice fo l.length fc] 34) := ⟨_, rfl⟩
  have hb1 : Below w.heap.size w W1 := by rw [hW1]; exact (Below.refl _ _).alloc (Nat.le_refl _) _
  have hz1 : W1.heap.size = w.heap.size + 1 := by rw [hW1]; simp
  have HBx : Hid (∀ w1, Below (w.heap.size + 1) W1 w1 -> Below w.heap.size w w1 /\ w1.cell? ⟨w.heap.size, 0, none⟩ = some (.slice ao m.vars.length ac) /\ w1.cell? ⟨w.heap.size, 1, none⟩ = some (.slice ro m.rules.length rc) /\ w1.cell? ⟨w.heap.size, 2, none⟩ = some (.slice po ps.length pc)) := fun w1 h => by
    have hl : w.heap.size < w.heap.size + 1 := Nat.lt_succ_self _; refine ⟨hb1.trans (h.mono (Nat.le_succ _)), (h.cell (p := ⟨w.heap.size, 0, none⟩) hl).trans ?_, (h.cell (p := ⟨w.heap.size, 1, none⟩) hl).trans ?_, (h.cell (p := ⟨w.heap.size, 2, none⟩) hl).trans ?_⟩ <;> (rw [hW1]; simp [go_sem])
  have HLe : Hid (∀ (w1 : World) (k : Nat), Below (w.heap.size + 1) W1 w1 -> k < cs.length -> Calls Tryz.prog 24 #[.agg #[.slice ao m.vars.length ac, .slice ro m.rules.length rc], .slice po ps.length pc, .int .i64 (cs.getD k 0)] w1 fun e w' => ∃ lo ln lc, e = .returned (.tuple #[.slice lo ln lc, .int .i64 0]) /\ Below w1.heap.size w1 w' /\ Hid (BoolsV w' (.slice lo ln lc) ((lets m ps cs).getD k []))) := fun w1 k h hkl => by
    have h0 := hb1.trans (h.mono (Nat.le_succ _)); refine (letter_any _ _ _ m ps (cs.getD k 0) w1 (Nat.lt_of_lt_of_le hB h0.size) (hT.below h0 hB) (hV.mo.below h0) (hV.ps.below h0)).mono fun e w' ⟨v, e1, e2, e3⟩ => ?_
    obtain ⟨lo, lc, rfl, hx⟩ := e3; exact ⟨lo, _, lc, by rw [e1, (tk_letV hk (hr k hkl)).1], e2, by rw [lets_at hkl]; exact ⟨lo, lc, rfl, hx⟩⟩
  have HCs : Hid (∀ w1, Below (w.heap.size + 1) W1 w1 -> ∀ k, k < cs.length -> ∃ b off, co = some ⟨b, off, none⟩ /\ w1.cell? ⟨b, off + k, none⟩ = some (.int .i64 (cs.getD k 0))) := fun w1 h k hkl => by
    obtain ⟨b, off, e, hlt, hc⟩ := hC.at hkl; exact ⟨b, off, e, ((hb1.trans (h.mono (Nat.le_succ _))).cell (p := ⟨b, off + k, none⟩) hlt).trans hc⟩
  have HLl : Hid (cs.length = (lets m ps cs).length) := (lets_len _ _ _).symm; generalize lets m ps cs = ls at *; obtain ⟨n, hn⟩ : ∃ n, n = cs.length := ⟨_, rfl⟩
  rw [<- hn] at h12 HLe HCs HLl ⊢; have hmk := run_make_row' (P := Tryz.prog) 52 60 (.slice none 0 0) 24 Tryz.underlying52 infoBools rfl .i64 .i64 n (by omega) (by omega)
  have HJ0 : Hid (LetJ (W1.alloc (.cells (madeCells #[.slice none 0 0] n) 60)) (w.heap.size + 1) n 0 ls) := ⟨fun _ => .slice none 0 0, by have h := World.rowIs_made W1 (.slice none 0 0) n 60; rw [hz1] at h; exact h, fun j hj => by omega, fun j _ => rfl⟩
  have HB0 : Hid (Below (w.heap.size + 1) W1 (W1.alloc (.cells (madeCells #[.slice none 0 0] n) 60))) := (Below.refl _ _).alloc (by omega) _
  generalize m.vars.length = vn at *; generalize m.rules.length = rn at *; generalize ps.length = pn at *; generalize l.length = fn at *; clear hT hV hk hr hC hn
  go_enter Tryz.func32, Tryz.ntmps32
  go_wp2_with fail
  rw [<- hW1]; clear hW1 hz1 hb1 hmk
  go_loopw [16] (fun i wr => ∃ k : Nat, k <= n /\ i = .int .i64 (k : Int) /\ Hid (LetJ wr (w.heap.size + 1) n k ls) /\ Hid (Below (w.heap.size + 1) W1 wr)) (fun i _ => n - (intOf i).toNat)
  case atStart => exact ⟨0, Nat.zero_le _, rfl, HJ0, HB0⟩
  case round =>
    obtain ⟨k, hkn, rfl, HJ, HBr⟩ := hrel; obtain ⟨hbw, a0, a1, a2⟩ := HBx.out wr HBr.out; have hs1 : w.heap.size + 1 < wr.heap.size := by obtain ⟨us, h1, _⟩ := HJ.out; exact h1.lt
    by_cases hlt : k < n
    · obtain ⟨b, off, rfl, c0⟩ := HCs.out wr HBr.out k hlt
      have hle := HLe.out wr k HBr.out hlt; have hki : (k : Int) < (n : Int) := by omega
      have HN : Hid (∀ (w2 : World) (lo : Option Addr) (ln lc : Nat), Below wr.heap.size wr w2 -> BoolsV w2 (.slice lo ln lc) (ls.getD k []) -> w2.frozen? ⟨w.heap.size + 1, k, none⟩ = false /\ w2.cell? ⟨w.heap.size + 1, k, none⟩ = some (.slice none 0 0) /\ Hid (LetJ (w2.setCell ⟨w.heap.size + 1, k, none⟩ (.slice lo ln lc)) (w.heap.size + 1) n (k + 1) ls) /\ Hid (Below (w.heap.size + 1) W1 (w2.setCell ⟨w.heap.size + 1, k, none⟩ (.slice lo ln lc)))) := fun w2 lo ln lc h hv => by
        have hj := HJ.out.later h; refine ⟨?_, ?_, hj.put hlt hv, (HBr.out.trans (h.mono (by omega))).setCell (Nat.le_refl _) _⟩
        · obtain ⟨us, h1, _⟩ := hj
          exact h1.frozen k
        · obtain ⟨us, h1, _, h3⟩ := hj
          rw [h1.cell hlt, h3 k (Nat.le_refl _)]
      generalize cs.getD k 0 = x at *; clear HJ
      go_wp2_with (go_at_call 24; refine hle.mono ?_; rintro e w2 ⟨lo, ln, lc, rfl, hb2, HV2⟩; obtain ⟨f0, f1, HJ2, HB2⟩ := HN.out w2 lo ln lc hb2 HV2.out)
      go_roundw
      case rel => exact ⟨k + 1, by omega, by go_num, HJ2, HB2⟩
      case measure => simp [intOf]; omega
    · obtain rfl : n = k := by omega
      have HF : Hid (LettersV wr (.slice (some ⟨w.heap.size + 1, 0, none⟩) n n) ls) := HJ.out.done HLl.out; clear HJ
      go_wp2_with fail
      go_ret2
      exact ⟨_, rfl, hbw, HF⟩
end Go.Proofs.YtjdfdmamonjnoaaGreatDoor
namespace Go.Proofs.YtjdfdmamonjnoaaGreatDoor
open Go.ChangeShapes Go.WideShapes Go.ChangeAt Go.RowKit Go.Deep
open Terms
set_option maxHeartbeats 6400000
set_option maxRecDepth 20000
theorem take_getV {l : List Int} {k : Nat} (h : k < l.length) : l.take (k + 1) = l.take k ++ [l.getD k 0] := by
  rw [List.take_succ_eq_append_getElem h]; simp [List.getD_eq_getElem?_getD, h]
theorem getD_memV {l : List Int} {k : Nat} (h : k < l.length) : l.getD k 0 ∈ l := by
  rw [List.getD_eq_getElem?_getD, List.getElem?_eq_getElem h]
  exact List.getElem_mem h
theorem IntsV.atV {w : World} {ao : Option Addr} {n cap : Nat} {l : List Int} (h : IntsV w (.slice ao n cap) l) {k : Nat} (hk : k < l.length) : ∃ b off, ao = some ⟨b, off, none⟩ /\ b < w.heap.size /\ n = l.length /\ IntsAt w b off l := by
  obtain ⟨ao', cap', e, h⟩ := h
  injection e with e1 e2 e3
  subst e1 e3; obtain ⟨b, off, e, hb, hat⟩ := h (by intro h; subst h; simp at hk)
  exact ⟨b, off, e, hb, e2, hat⟩
theorem indexV_any (ao : Option Addr) (cap : Nat) (l : List Int) (x : Int) (w : World) (hl : l.length <= 140737488355328) (hV : IntsV w (.slice ao l.length cap) l) :
    Calls Tryz.prog 98 #[.slice ao l.length cap, .int .i64 x] w fun e w' => ∃ q : Int, e = .returned (.int .i64 q) /\ w' = w /\ (x ∈ l -> 0 <= q) /\ (x ∉ l -> q = -1) := by
  obtain ⟨n, hn⟩ : ∃ n, l.length = n := ⟨_, rfl⟩
  have H : Hid (IntsV w (.slice ao l.length cap) l) := hV; rw [hn] at hl H ⊢; have HN : Hid (l.length = n) := hn; clear hV hn
  go_enter Tryz.func98, Tryz.ntmps98
  go_wp2
  go_loopw [8] (fun i wr => ∃ k : Nat, k <= n /\ i = .int .i64 k /\ Hid (x ∉ l.take k) /\ wr = w) (fun i _ => n - (intOf i).toNat)
  case atStart => exact ⟨0, Nat.zero_le _, rfl, by show ¬ _; simp, rfl⟩
  case round =>
    obtain ⟨k, hk, rfl, HT, rfl⟩ := hrel
    by_cases hlt : k < n
    · have hlt2 : k < l.length := by rw [HN.out]; exact hlt
      obtain ⟨b, off, rfl, hb, _, hat⟩ := IntsV.atV H.out hlt2; have c1 := hat k hlt2
      have HS : Hid (x ≠ l.getD k 0 -> x ∉ l.take (k + 1)) := fun h hm => by
        rw [take_getV hlt2] at hm
        rcases List.mem_append.1 hm with h2 | h2
        · exact HT.out h2
        · simp at h2; exact h h2
      have HM : Hid (l.getD k 0 ∈ l) := getD_memV hlt2; clear hat HT; generalize l.getD k 0 = y at *
      by_cases hxy : x = y
      · subst hxy
        go_wp2
        go_ret
        exact ⟨_, rfl, rfl, fun _ => by omega, fun h => absurd HM.out h⟩
      · have hs := HS.out hxy
        have HS2 : Hid (x ∉ l.take (k + 1)) := hs; clear hs HS HM
        go_wp2
        go_roundw
        case rel => exact ⟨k + 1, by omega, by go_num, HS2, by trivial⟩
        case measure => simp [intOf]; omega
    · obtain rfl : k = n := by omega
      have HT' : Hid (x ∉ l) := by have h := HT.out; rw [List.take_of_length_le (by rw [HN.out]; omega)] at h; exact h
      clear HT
      go_wp2
      go_ret
      exact ⟨-1, rfl, rfl, fun h => absurd h HT'.out, fun _ => rfl⟩
theorem containsV_any (ao : Option Addr) (cap : Nat) (l : List Int) (x : Int) (w : World) (hl : l.length <= 140737488355328) (hV : IntsV w (.slice ao l.length cap) l) :
    Calls Tryz.prog 64 #[.slice ao l.length cap, .int .i64 x] w fun e w' => e = .returned (.bool (decide (x ∈ l))) /\ w' = w := by
  have hx := indexV_any ao cap l x w hl hV; generalize l.length = n at *; clear hV
  by_cases hm : x ∈ l
  · rw [show decide (x ∈ l) = true by simp [hm]]
    have hx2 : Calls Tryz.prog 98 #[.slice ao n cap, .int .i64 x] w fun e w' => ∃ q : Int, e = .returned (.int .i64 q) /\ w' = w /\ 0 <= q := hx.mono fun e w' ⟨q, h1, h2, h3, _⟩ => ⟨q, h1, h2, h3 hm⟩
    clear hx hm
    go_enter Tryz.func64, Tryz.ntmps64
    go_wp2_with (go_at_call 98; refine hx2.mono ?_; rintro e w1 ⟨q, rfl, rfl, h3⟩)
    go_ret
    exact ⟨by first | rfl | trivial, rfl⟩
  · rw [show decide (x ∈ l) = false by simp [hm]]
    have hx2 : Calls Tryz.prog 98 #[.slice ao n cap, .int .i64 x] w fun e w' => e = .returned (.int .i64 (-1)) /\ w' = w := hx.mono fun e w' ⟨q, h1, h2, _, h3⟩ => ⟨by rw [h1, h3 hm], h2⟩
    clear hx hm
    go_enter Tryz.func64, Tryz.ntmps64
    go_wp2_with (go_at_call 98; refine hx2.mono ?_; rintro e w1 ⟨rfl, rfl⟩)
    go_ret
    exact ⟨by first | rfl | trivial, rfl⟩
end Go.Proofs.YtjdfdmamonjnoaaGreatDoor
namespace Go.Proofs.YtjdfdmamonjnoaaGreatDoor
open Go.ChangeShapes Go.WideShapes Go.ChangeAt Go.RowKit Go.Deep Go.Maps
open Terms Tm
set_option maxHeartbeats 6400000
set_option maxRecDepth 20000
theorem keyedIV : Keyed Tryz.prog 3 := int_keyed Tryz.underlying3
theorem zeroStV (w : World) : (zeroValue 143).run Tryz.prog w = .ok (.agg #[.slice none 0 0]) w := by kernel_rfl
theorem keyIV {x : Int} (h : -9223372036854775808 <= x /\ x <= 9223372036854775807) : keyOf Tryz.prog 3 (.int .i64 x) = some (.int .i64 x) := keyOf_int_mk Tryz.underlying3 (WalkArith.wf_i64 (by omega))
theorem IntsV.overMap {wr w' : World} {g : Nat} {v : Value} {l : List Int} (h : IntsV wr v l) (hm : ∃ es c, wr.heap[g]? = some (.map es c)) (hs : Sk g g wr w') : IntsV w' v l := by
  obtain ⟨ao, cap, rfl, h⟩ := h; refine ⟨ao, cap, rfl, fun hne => ?_⟩
  obtain ⟨b, off, rfl, hlt, hat⟩ := h hne; exact ⟨b, off, rfl, Nat.lt_of_lt_of_le hlt hs.size, fun i hi => hs.cell ⟨hm, hm⟩ (hat i hi)⟩
def KnAt (wr : World) (m : Mo) (f : Lit -> Option Value) : Prop := ∀ kl v, f kl = some v -> ∃ c ao cap, kl = .int .i64 c /\ v = .agg #[.slice ao (nextL m c).length cap] /\ IntsV wr (.slice ao (nextL m c).length cap) (nextL m c)
def KnOk (wr : World) (g n : Nat) (m : Mo) : Prop := ∃ f, MapIs wr 3 g n f /\ KnAt wr m f
theorem KnOk.lt {wr : World} {g n : Nat} {m : Mo} (h : KnOk wr g n m) : g < wr.heap.size := by obtain ⟨f, h1, _⟩ := h; exact h1.lt
theorem MapIs.more {w : World} {kt : TypeId} {b n k : Nat} {f : Lit -> Option Value} (h : MapIs w kt b n f) (hk : n <= k) : MapIs w kt b k f := by
  obtain ⟨D, ⟨es, c, h1, h2, h3, h4⟩, h5⟩ := h; exact ⟨D, ⟨es, c, h1, h2, Nat.le_trans h3 hk, h4⟩, h5⟩
theorem KnOk.below {wr w' : World} {g n : Nat} {m : Mo} (h : KnOk wr g n m) (hb : Below wr.heap.size wr w') : KnOk w' g (n + 1) m := by
  obtain ⟨f, h1, h2⟩ := h; refine ⟨f, (h1.kept (hb.block _ h1.lt)).more (Nat.le_succ _), fun kl v hv => ?_⟩
  obtain ⟨c, ao, cap, e1, e2, e3⟩ := h2 kl v hv; exact ⟨c, ao, cap, e1, e2, e3.below hb⟩
theorem KnOk.put {wr w3 w' : World} {g n : Nat} {m : Mo} {f : Lit -> Option Value} {code : Int} {ao : Option Addr} {cap : Nat} (h1 : MapIs wr 3 g n f) (h2 : KnAt wr m f) (hb : Below wr.heap.size wr w3) (hg : w3.grownBy w' (some g))
    (hm : MapIs w' 3 g (n + 1) (fput f (.int .i64 code) (.agg #[.slice ao (nextL m code).length cap]))) (hI : IntsV w3 (.slice ao (nextL m code).length cap) (nextL m code)) : KnOk w' g (n + 1) m /\ IntsV w' (.slice ao (nextL m code).length cap) (nextL m code) := by
  have hmm : ∃ es c, w3.heap[g]? = some (.map es c) := (h1.kept (hb.block _ h1.lt)).isMap
  have hs : Sk g g w3 w' := Sk.grown hg (.inl rfl); refine ⟨⟨_, hm, fun kl v hv => ?_⟩, hI.overMap hmm hs⟩
  by_cases hk : kl = .int .i64 code
  · subst hk
    rw [fput_same] at hv
    cases hv
    exact ⟨code, ao, cap, rfl, rfl, hI.overMap hmm hs⟩
  · rw [fput_other hk] at hv
    obtain ⟨c, ao', cap', e1, e2, e3⟩ := h2 kl v hv; exact ⟨c, ao', cap', e1, e2, (e3.below hb).overMap hmm hs⟩
open Classical in
theorem allLead_any (va vr : Value) (m : Mo) (b off cap : Nat) (cs : List Int) (w : World) (hB : 0 < w.heap.size) (hT : TabAt w) (hV : ModelV w va vr m) (hm : mcode m = 0) (h2 : 2 <= cs.length) (hM : cs.length <= 1099511627776) (hcap : cs.length <= cap) (hb : b < w.heap.size) (hC : IntsAt w b off cs)
    (h0 : 0 <= cs.getD 0 0 /\ cs.getD 0 0 < prodTo m.vars m.vars.length) :
    Calls Tryz.prog 30 #[.agg #[va, vr], .slice (some ⟨b, off, none⟩) cs.length cap] w fun e w' => e = .returned (.bool (decide (LeadsTo m cs (cs.length - 1)))) /\ Below w.heap.size w w' := by
  obtain ⟨ao, ac, rfl⟩ := hV.1.shape; obtain ⟨ro, rc, rfl⟩ := hV.2.shape; have hP := (mcode_vars hm).prod (Nat.le_refl m.vars.length); obtain ⟨W1, hW1⟩ : ∃ W1, W1 = w.alloc (.cells #[.slice ao m.vars.length ac, .slice ro m.rules.length rc] 30) := ⟨_, rfl⟩
  have hb1 : Below w.heap.size w W1 := by rw [hW1]; exact (Below.refl _ _).alloc (Nat.le_refl _) _
  have hz1 : W1.heap.size = w.heap.size + 1 := by rw [hW1]; simp
  have HNe : Hid (∀ (w1 : World) (code : Int), Below (w.heap.size + 1) W1 w1 -> (0 <= code /\ code < prodTo m.vars m.vars.length) -> Calls Tryz.prog 22 #[.agg #[.slice ao m.vars.length ac, .slice ro m.rules.length rc], .int .i64 code] w1 fun e w' => ∃ no nc, e = .returned (.tuple #[.slice no (nextL m code).length nc, .int .i64 0]) /\ Below w1.heap.size w1 w' /\ Hid (IntsV w' (.slice no (nextL m code).length nc) (nextL m code) /\ ∀ a, no = some a -> w1.heap.size <= a.block)) := fun w1 code h hcr => by
    have h0 := hb1.trans (h.mono (Nat.le_succ _)); refine (next_own _ _ m code w1 (Nat.lt_of_lt_of_le hB h0.size) (hT.below h0 hB) (hV.below h0) hm).mono fun e w' ⟨v, q1, q2, q3⟩ => ?_
    have q4 := intsV_of_owns q3; rw [nxtL_yes hm hcr] at q4; obtain ⟨no, nc, rfl, hx⟩ := q4; refine ⟨no, nc, by rw [q1, wcode_yes hm hcr], q2, ⟨no, nc, rfl, hx⟩, fun a e => ?_⟩
    rcases q3.2 with ⟨e3, _⟩ | ⟨g', cap', cur', e3, e4, _⟩
    · rw [e] at e3; cases e3
    · rw [e] at e3
      injection e3 with e3 _ _
      injection e3 with e3
      rw [e3]; exact e4
  have HCo : Hid (∀ (w1 : World) (no : Option Addr) (nc : Nat) (code x : Int), (0 <= code /\ code < prodTo m.vars m.vars.length) -> IntsV w1 (.slice no (nextL m code).length nc) (nextL m code) -> Calls Tryz.prog 64 #[.slice no (nextL m code).length nc, .int .i64 x] w1 fun e w' => e = .returned (.bool (decide (x ∈ nextL m code))) /\ w' = w1) := fun w1 no nc code x hcr hI => containsV_any no nc (nextL m code) x w1 (by have := nxtL_length m code; rw [nxtL_yes hm hcr] at this; have h9 := (mcode_rules hm); omega) hI
  have HBx : Hid (∀ w1, Below (w.heap.size + 1) W1 w1 -> w1.cell? ⟨w.heap.size, 0, none⟩ = some (.slice ao m.vars.length ac) /\ w1.cell? ⟨w.heap.size, 1, none⟩ = some (.slice ro m.rules.length rc)) := fun w1 h => by
    have hl : w.heap.size < w.heap.size + 1 := Nat.lt_succ_self _; exact ⟨(h.cell (p := ⟨w.heap.size, 0, none⟩) hl).trans (by rw [hW1]; simp [go_sem]), (h.cell (p := ⟨w.heap.size, 1, none⟩) hl).trans (by rw [hW1]; simp [go_sem])⟩
  have HCs : Hid (∀ w1, Below (w.heap.size + 1) W1 w1 -> ∀ i, i < cs.length -> w1.cell? ⟨b, off + i, none⟩ = some (.int .i64 (cs.getD i 0))) := fun w1 h i hi => ((hb1.trans (h.mono (Nat.le_succ _))).cell (p := ⟨b, off + i, none⟩) hb).trans (hC i hi)
  have HRg : Hid (∀ k, LeadsTo m cs k -> 0 <= cs.getD k 0 /\ cs.getD k 0 < prodTo m.vars m.vars.length) := fun k h => h.range hm h0
  have HNo : Hid (∀ k, k + 1 < cs.length -> (0 <= cs.getD k 0 /\ cs.getD k 0 < prodTo m.vars m.vars.length) -> cs.getD (k + 1) 0 ∉ nextL m (cs.getD k 0) -> decide (LeadsTo m cs (cs.length - 1)) = false) := fun k hk hr hn => decide_eq_false fun h => hn (by have := h k (by omega); rw [nxtL_yes hm hr] at this; exact this)
  have HYs : Hid (∀ k, LeadsTo m cs k -> cs.getD (k + 1) 0 ∈ nextL m (cs.getD k 0) -> LeadsTo m cs (k + 1)) := fun k h h2 => h.succ (by rw [nxtL_yes hm (h.range hm h0)]; exact h2)
  have HRes : Hid (∀ k, LeadsTo m cs k -> k = cs.length - 1 -> decide (LeadsTo m cs (cs.length - 1)) = true) := fun k h e => by rw [<- e]; exact decide_eq_true h
  have HK0 : Hid (∀ w1 : World, KnOk (w1.alloc (.map #[] 0)) w1.heap.size 0 m) := fun w1 => ⟨fun _ => none, MapIs.new _ (MapKept.heap_alloc w1 _).1, fun kl v h => by cases h⟩
  have HPut : Hid (∀ (w1 : World) (g n : Nat) (f : Lit -> Option Value) (code : Int) (v : Value), MapIs w1 3 g n f -> n <= 1099511627776 -> (0 <= code /\ code < prodTo m.vars m.vars.length) -> ∃ w', (Instr.mapUpdate 141 (.map (some g)) (.int .i64 code) v).run Tryz.prog w1 = .ok () w' /\ MapIs w' 3 g (n + 1) (fput f (.int .i64 code) v) /\ w1.grownBy w' (some g)) := fun w1 g n f code v h hn hcr => h.put keyedIV Tryz.underlying141 (by unfold maxLen; omega) (val := v) (keyIV (by omega)) (by simp [WideAt.IsKeyLit])
  have HLk : Hid (∀ (w1 : World) (g n : Nat) (f : Lit -> Option Value) (code : Int), MapIs w1 3 g n f -> (0 <= code /\ code < prodTo m.vars m.vars.length) -> (Instr.lookup 141 (.map (some g)) (.int .i64 code) true).run Tryz.prog w1 = .ok (.tuple #[(f (.int .i64 code)).getD (.agg #[.slice none 0 0]), .bool (f (.int .i64 code)).isSome]) w1) := fun w1 g n f code h hcr => h.look keyedIV Tryz.underlying141 (zeroStV _) (keyIV (by omega))
  generalize decide (LeadsTo m cs (cs.length - 1)) = res at *; obtain ⟨n, hn⟩ : ∃ n, n = cs.length := ⟨_, rfl⟩
  have HN : Hid (n = cs.length) := hn; rw [<- hn] at h2 hM hcap HCs HNo HRes ⊢; generalize m.vars.length = vn at *; generalize m.rules.length = rn at *; have hc1 : ¬ cap = 1 := by omega
  have HKs : Hid (KnOk (W1.alloc (.map #[] 0)) (w.heap.size + 1) 0 m) := by have h := HK0.out W1; rw [hz1] at h; exact h
  have HBs : Hid (Below (w.heap.size + 1) W1 (W1.alloc (.map #[] 0))) := (Below.refl _ _).alloc (by omega) _
  have HBe : Hid (∀ w1, Below (w.heap.size + 1) W1 w1 -> Below w.heap.size w w1) := fun w1 h => hb1.trans (h.mono (Nat.le_succ _))
  have HBn : Hid (∀ (wr : World) (v : Value) (w' : World), Below (wr.heap.size + 1) (wr.alloc (.cells #[v] 143)) w' -> Below wr.heap.size wr w' /\ w'.cell? ⟨wr.heap.size, 0, none⟩ = some v /\ w'.frozen? ⟨wr.heap.size, 0, none⟩ = false) := fun wr v w' h => by
    have hl : wr.heap.size < wr.heap.size + 1 := Nat.lt_succ_self _; exact ⟨((Below.refl _ _).alloc (Nat.le_refl _) _).trans (h.mono (Nat.le_succ _)), (h.cell (p := ⟨wr.heap.size, 0, none⟩) hl).trans (by simp [go_sem]), (h.frozen (p := ⟨wr.heap.size, 0, none⟩) hl).trans (by simp [go_sem])⟩
  clear hT hV hC h0 hn hm hP HK0; have hmm := @run_makeMap Tryz.prog
  go_enter Tryz.func30, Tryz.ntmps30
  go_wp2_with fail
  rw [<- hW1]; clear hW1 hz1 hb1; obtain ⟨p, hp⟩ : ∃ p, n - 1 = p := ⟨_, rfl⟩
  rw [hp]; have HPn : Hid (n = p + 1) := by show _ = _; omega
  have hpM : p <= 1099511627776 := by omega
  rw [hp] at HRes; clear hp
  go_loopw [17] (fun i wr => ∃ k : Nat, k <= p /\ i = .int .i64 (k : Int) /\ Hid (LeadsTo m cs k) /\ Hid (KnOk wr (w.heap.size + 1) k m) /\ Hid (Below (w.heap.size + 1) W1 wr)) (fun i _ => p - (intOf i).toNat)
  case atStart => exact ⟨0, Nat.zero_le _, rfl, LeadsTo.zero _ _, HKs, HBs⟩
  case round =>
    obtain ⟨k, hk, rfl, HL, HK, HBl⟩ := hrel
    by_cases hlt : k < p
    · obtain ⟨f, hf, hfa⟩ := HK.out
      have hbl := HBl.out; have hws : w.heap.size + 1 <= wr.heap.size := Nat.le_of_lt HK.out.lt; have hrg := HRg.out k HL.out; have hpn := HPn.out; have c0 := HCs.out wr hbl k (by omega)
      have c1 : wr.cell? ⟨b, off + 1 + k, none⟩ = _ := (congrArg (fun j => wr.cell? ⟨b, j, none⟩) (by omega : off + 1 + k = off + (k + 1))).trans (HCs.out wr hbl (k + 1) (by omega))
      have hlk := HLk.out wr _ _ f _ hf hrg; have HNx : Hid _ := HNo.out k (by omega) hrg
      have HYx : Hid _ := HYs.out k HL.out; have hki : (k : Int) < (p : Int) := by omega
      have hki2 : (k : Int) < (n : Int) := by omega
      clear hpn HL; generalize cs.getD k 0 = x at *; generalize cs.getD (k + 1) 0 = y at *; have HF : Hid (MapIs wr 3 (w.heap.size + 1) k f /\ KnAt wr m f) := ⟨hf, hfa⟩
      cases hfx : f (.int .i64 x) with
      | some v =>
        obtain ⟨c, no, nc, e1, e2, hI⟩ := hfa _ _ hfx
        injection e1 with _ e1
        subst e1 e2; rw [hfx] at hlk; simp only [Option.getD_some, Option.isSome_some] at hlk; have hB3 : Below wr.heap.size wr (wr.alloc (.cells #[.slice no (nextL m x).length nc] 143)) := (Below.refl _ _).alloc (Nat.le_refl _) _; have hco := HCo.out _ no nc x y hrg (hI.below hB3)
        have HKn : Hid (KnOk (wr.alloc (.cells #[.slice no (nextL m x).length nc] 143)) (w.heap.size + 1) (k + 1) m) := HK.out.below hB3; have HB4 : Hid (Below (w.heap.size + 1) W1 (wr.alloc (.cells #[.slice no (nextL m x).length nc] 143))) := hbl.trans (hB3.mono hws); clear hf hfa hfx hI hB3 HK HF; generalize (nextL m x).length = nn at *
        by_cases hy : y ∈ nextL m x
        · rw [decide_eq_true hy] at hco
          have HY : Hid (LeadsTo m cs (k + 1)) := HYx.out hy; clear hy hrg HNx
          go_wp2_with (go_at_call 64; refine hco.mono ?_; rintro e w4 ⟨rfl, rfl⟩)
          go_roundw
          case rel => exact ⟨k + 1, by omega, by go_num, HY, HKn, HB4⟩
          case measure => simp [intOf]; omega
        · rw [decide_eq_false hy] at hco
          have HR : Hid (res = false) := HNx.out hy; clear hy hrg HYx
          go_wp2_with (go_at_call 64; refine hco.mono ?_; rintro e w4 ⟨rfl, rfl⟩)
          go_ret
          exact ⟨by rw [HR.out]; rfl, HBe.out _ HB4.out⟩
      | none =>
        rw [hfx] at hlk; simp only [Option.getD_none, Option.isSome_none] at hlk; have hB2 : Below wr.heap.size wr (wr.alloc (.cells #[.slice none 0 0] 143)) := (Below.refl _ _).alloc (Nat.le_refl _) _; have hbl2 := hbl.trans (hB2.mono hws); have hne := HNe.out _ x hbl2 hrg; obtain ⟨m0, m1⟩ := HBx.out _ hbl2; have HNw := HBn.out wr (.slice none 0 0)
        have hszA : (wr.alloc (.cells #[.slice none 0 0] 143)).heap.size = wr.heap.size + 1 := by simp
        have HNw : Hid (∀ w', Below (wr.alloc (.cells #[.slice none 0 0] 143)).heap.size (wr.alloc (.cells #[.slice none 0 0] 143)) w' -> Below wr.heap.size wr w' /\ w'.cell? ⟨wr.heap.size, 0, none⟩ = some (.slice none 0 0) /\ w'.frozen? ⟨wr.heap.size, 0, none⟩ = false) := fun w' h => HBn.out wr _ w' (by rw [hszA] at h; exact h)
        have HSt : Hid (∀ (w2 : World) (no : Option Addr) (nc : Nat), Below (wr.alloc (.cells #[.slice none 0 0] 143)).heap.size (wr.alloc (.cells #[.slice none 0 0] 143)) w2 -> (IntsV w2 (.slice no (nextL m x).length nc) (nextL m x) /\ ∀ a, no = some a -> (wr.alloc (.cells #[.slice none 0 0] 143)).heap.size <= a.block) -> ∃ w4, (Instr.mapUpdate 141 (.map (some (w.heap.size + 1))) (.int .i64 x) (.agg #[.slice no (nextL m x).length nc])).run Tryz.prog (w2.setCell ⟨wr.heap.size, 0, none⟩ (.slice no (nextL m x).length nc)) = .ok () w4 /\ w4.cell? ⟨wr.heap.size, 0, none⟩ = some (.slice no (nextL m x).length nc) /\ Hid (KnOk w4 (w.heap.size + 1) (k + 1) m) /\ Hid (Below (w.heap.size + 1) W1 w4) /\ IntsV w4 (.slice no (nextL m x).length nc) (nextL m x)) := fun w2 no nc h hI => by
          obtain ⟨hI, hIa⟩ := hI; obtain ⟨q1, q2, q3⟩ := HNw.out w2 h; have hB3 : Below wr.heap.size wr (w2.setCell ⟨wr.heap.size, 0, none⟩ (.slice no (nextL m x).length nc)) := ⟨q1.os, q1.tape, q1.output, by simpa using q1.size, fun i hi => (RowKit.Below.heap_setCell _ _ _ _ (by show i ≠ wr.heap.size; omega)).trans (q1.block i hi)⟩
          obtain ⟨w4, r1, r2, r3⟩ := HPut.out _ _ k f x (.agg #[.slice no (nextL m x).length nc]) (HF.out.1.kept (hB3.block _ HF.out.1.lt)) (by omega) hrg
          have hI3 : IntsV (w2.setCell ⟨wr.heap.size, 0, none⟩ (.slice no (nextL m x).length nc)) (.slice no (nextL m x).length nc) (nextL m x) := by
            obtain ⟨ao, cap, e, hx⟩ := hI
            injection e with e1 _ e3
            subst e1 e3; refine ⟨_, _, rfl, fun hne => ?_⟩
            obtain ⟨b, off, rfl, hlt, hat⟩ := hx hne; have := hIa _ rfl; rw [hszA] at this; exact ⟨b, off, rfl, by simpa using hlt, fun i hi => by rw [World.cell?_setCell_other _ _ _ _ (by intro e; injection e with e _; simp at this; omega)]; exact hat i hi⟩
          obtain ⟨t1, t2⟩ := KnOk.put HF.out.1 HF.out.2 hB3 r3 r2 hI3; have hb3w := hbl.trans (hB3.mono hws); have hmm : ∃ es c, (w2.setCell ⟨wr.heap.size, 0, none⟩ (.slice no (nextL m x).length nc)).heap[w.heap.size + 1]? = some (.map es c) := (HF.out.1.kept (hB3.block _ HF.out.1.lt)).isMap
          refine ⟨w4, r1, ?_, t1, hb3w.grown r3 (Nat.le_trans hws hB3.size) (fun q hq => by injection hq with hq; omega), t2⟩
          refine (Sk.grown r3 (.inl rfl) : Sk (w.heap.size + 1) (w.heap.size + 1) _ _).cell ⟨hmm, hmm⟩ ?_
          simp [go_sem, q2]
        have HCx : Hid (∀ (w1 : World) (no : Option Addr) (nc : Nat), IntsV w1 (.slice no (nextL m x).length nc) (nextL m x) -> Calls Tryz.prog 64 #[.slice no (nextL m x).length nc, .int .i64 y] w1 fun e w' => e = .returned (.bool (decide (y ∈ nextL m x))) /\ w' = w1) := fun w1 no nc h => HCo.out w1 no nc x y hrg h
        clear hf hfa hfx HK HF hB2 hbl2 HBx; generalize (nextL m x).length = nn at *
        by_cases hy : y ∈ nextL m x
        · rw [decide_eq_true hy] at HCx
          have HY : Hid (LeadsTo m cs (k + 1)) := HYx.out hy; clear hy hrg HNx
          go_wp2_with (first | (go_at_call 22; refine hne.mono ?_; rintro e w2 ⟨no, nc, rfl, hb2, HI⟩; obtain ⟨_, g1, g2⟩ := HNw.out w2 hb2; obtain ⟨w4, hrun, g3, HKn, HB4, hI4⟩ := HSt.out w2 no nc hb2 HI.out; have hco := HCx.out w4 no nc hI4) | (go_at_call 64; refine hco.mono ?_; rintro e w5 ⟨rfl, rfl⟩))
          go_roundw
          case rel => exact ⟨k + 1, by omega, by go_num, HY, HKn, HB4⟩
          case measure => simp [intOf]; omega
        · rw [decide_eq_false hy] at HCx
          have HR : Hid (res = false) := HNx.out hy; clear hy hrg HYx
          go_wp2_with (first | (go_at_call 22; refine hne.mono ?_; rintro e w2 ⟨no, nc, rfl, hb2, HI⟩; obtain ⟨_, g1, g2⟩ := HNw.out w2 hb2; obtain ⟨w4, hrun, g3, HKn, HB4, hI4⟩ := HSt.out w2 no nc hb2 HI.out; have hco := HCx.out w4 no nc hI4) | (go_at_call 64; refine hco.mono ?_; rintro e w5 ⟨rfl, rfl⟩))
          go_ret
          exact ⟨by rw [HR.out]; rfl, HBe.out _ HB4.out⟩
    · obtain rfl : k = p := by omega
      have HR : Hid (res = true) := HRes.out k HL.out rfl; have hbe := HBe.out _ HBl.out; clear HK HL HRes
      go_wp2
      go_ret
      exact ⟨by rw [HR.out]; rfl, hbe⟩
end Go.Proofs.YtjdfdmamonjnoaaGreatDoor
namespace Go.Proofs.YtjdfdmamonjnoaaGreatDoor
open Go.ChangeShapes Go.WideShapes Go.ChangeAt Go.RowKit Go.Deep
open Terms
set_option maxHeartbeats 6400000
set_option maxRecDepth 20000
theorem growI_any (n : Nat) (w : World) (h0 : 0 < n) (h24 : n <= 1099511627776) :
    Calls Tryz.prog 63 #[.slice none 0 0, .int .i64 (n : Int)] w fun e w' => ∃ B cap, e = .returned (.slice (some ⟨B, 0, none⟩) 0 cap) /\ Below w.heap.size w w' /\ w'.ownsRow w.heap.size 3 1 (.slice (some ⟨B, 0, none⟩) 0 cap) 0 [] := by
  obtain ⟨i0, hi, hz0, hz1, hz2⟩ := info_parts infoInt
  have hrz : ∀ ty, (Builtin.append_ #[36, 3] ty #[.slice none 0 0, .int .i64 (n : Int)]).run Tryz.prog w = .ok (.slice (some ⟨w.heap.size, 0, none⟩) n (grownCap w n 0 3)) (w.drew.alloc (.cells (Builtin.zeroCells (Value.int .i64 0).cells n ++ Builtin.zeroCells (Value.int .i64 0).cells (grownCap w n 0 3 - n)) 3)) := fun ty =>
    Lib.run_append_nil_zeros w 36 3 ty 3 i0 (.int .i64 0) .i64 .i64 Tryz.underlying36 Tryz.underlying3 hi hz0 n h0 (by omega) (by omega) (by rw [hz2]; omega)
  have hge := grownCap_ge w n 0 3; have hle := grownCap_le_maxLen w n 0 3 (by unfold maxLen; omega)
  generalize grownCap w n 0 3 = G at hrz hge hle; have hG : G <= 9223372036854775807 := by unfold maxLen at hle; omega
  have hn : ¬ (n : Int) < 0 := by omega
  have hn2 : (n : Int) > 0 := by omega
  go_enter Tryz.func63, Tryz.ntmps63
  go_wp2_with (at_builtin; refine Lib.wpList_append_run _ rfl _ _ _ _ rfl _ _ rfl rfl _ _ (hrz _) ?_)
  go_ret
  refine ⟨_, _, rfl, (below_drewN (Below.refl _ _) 1).alloc (Nat.le_refl _) _, ?_⟩
  refine ⟨rfl, .inr ⟨w.heap.size, G, Builtin.zeroCells #[Value.int .i64 0] n ++ Builtin.zeroCells #[Value.int .i64 0] (G - n), rfl, Nat.le_refl _, ?_, Nat.zero_le _, hle, ?_, by simp⟩⟩
  · show (w.heap.push _)[w.heap.size]? = _
    simp
  · simp [size_zeroCells]
    omega
def accI (xs : List (List Int)) (k : Nat) : List Int := (xs.take k).flatten
theorem accI_step {xs : List (List Int)} {k : Nat} (h : k < xs.length) : accI xs (k + 1) = accI xs k ++ xs.getD k [] := by
  unfold accI; rw [List.take_succ_eq_append_getElem h, List.flatten_append]; simp [List.getD_eq_getElem?_getD, h]
theorem accI_le (xs : List (List Int)) (k : Nat) : (accI xs k).length <= xs.flatten.length := by
  unfold accI; have := congrArg List.length (congrArg List.flatten (List.take_append_drop k xs)); rw [List.flatten_append, List.length_append] at this; omega
theorem concatI_own (g : Nat) (xs : List (List Int)) (w0 w : World) (hb0 : Below w0.heap.size w0 w) (h3 : xs.length = 3) (h0 : 1 <= xs.flatten.length) (hM : xs.flatten.length <= 1099511627776)
    (hX : ∀ k, k < 3 -> ∃ v, w.cell? ⟨g, k, none⟩ = some v /\ IntsW w0 v (xs.getD k [])) :
    Calls Tryz.prog 29 #[.slice (some ⟨g, 0, none⟩) 3 3] w fun e w' => ∃ B cap, e = .returned (.slice (some ⟨B, 0, none⟩) xs.flatten.length cap) /\ Below w.heap.size w w' /\ Hid (w'.ownsRow w.heap.size 3 1 (.slice (some ⟨B, 0, none⟩) xs.flatten.length cap) xs.flatten.length (ivals xs.flatten)) := by
  obtain ⟨v0, c0, _⟩ := hX 0 (by omega)
  have hg := World.block_lt_of_cell? w ⟨g, 0, none⟩ c0; clear c0; obtain ⟨i0, hi, hz0, hz1, hz2⟩ := info_parts infoInt; obtain ⟨zz, hzz⟩ : ∃ zz : Nat -> Int, zz = fun k => ((accI xs k).length : Int) := ⟨_, rfl⟩
  have HAt : Hid (∀ k, k < 3 -> ∃ xo xn xc xl, w.cell? ⟨g, k, none⟩ = some (.slice xo xn xc) /\ zz (k + 1) = zz k + (xn : Int) /\ 0 <= zz k /\ zz k <= 1099511627776 /\ xn <= 1099511627776 /\ xn = xl.length /\ accI xs (k + 1) = accI xs k ++ xl /\ (accI xs k).length + xn <= 1099511627776 /\ IntsW w0 (.slice xo xn xc) xl) := fun k hk => by
    obtain ⟨v, hc, hI⟩ := hX k hk; obtain ⟨ao, cap, rfl, h1, h2⟩ := id hI; have e1 := accI_step (xs := xs) (k := k) (by omega)
    have e2 := accI_le xs k; have e3 := accI_le xs (k + 1); have e4 := congrArg List.length e1; rw [List.length_append] at e4
    exact ⟨ao, _, cap, xs.getD k [], hc, by rw [hzz]; show ((accI xs (k + 1)).length : Int) = ((accI xs k).length : Int) + _; omega, by rw [hzz]; show (0 : Int) <= ((accI xs k).length : Int); omega, by rw [hzz]; show ((accI xs k).length : Int) <= _; omega, by omega, rfl, e1, by omega, hI⟩
  have HZ0 : Hid (zz 0 = 0) := by show _ = _; rw [hzz]; rfl
  have HA0 : Hid (accI xs 0 = []) := rfl; have HA3 : Hid (accI xs 3 = xs.flatten) := by show _ = _; unfold accI; rw [<- h3, List.take_length]
  have HZ3 : Hid (zz 3 = ((xs.flatten.length : Nat) : Int)) := by show _ = _; rw [hzz, <- HA3.out]
  have hgr := fun w1 => growI_any xs.flatten.length w1 (by omega) hM
  have HLen : Hid (xs.flatten.length = xs.flatten.length) := rfl; generalize xs.flatten = fl at *; obtain ⟨tn, htn⟩ : ∃ tn, tn = fl.length := ⟨_, rfl⟩
  have HTn : Hid (tn = fl.length) := htn; rw [<- htn] at hgr HLen HZ3 hM h0 ⊢; generalize accI xs = ac at *; clear hX htn hzz h3 HLen
  go_enter Tryz.func29, Tryz.ntmps29
  go_wp2
  go_loop [3, 11] (fun z i => ∃ k : Nat, k <= 3 /\ i = .int .i64 (k : Int) /\ z = .int .i64 (zz k)) (fun _ i => 3 - (intOf i).toNat)
  case atStart => exact ⟨0, by omega, rfl, by rw [HZ0.out]⟩
  case round =>
    obtain ⟨k, hk, rfl, rfl⟩ := hrel
    by_cases hlt : k < 3
    · obtain ⟨xo, xn, xc, xl, hc, hz, hz00, hz12, hx12, hr⟩ := HAt.out k hlt
      clear hr; have HZ : Hid (zz (k + 1) = zz k + (xn : Int)) := hz; clear hz; generalize zz k = z0 at *
      go_wp2
      go_round
      case rel => exact ⟨k + 1, hlt, by go_num, by rw [HZ.out]⟩
      case measure => simp [intOf]; omega
    · obtain rfl : k = 3 := by omega
      rw [HZ3.out]
      go_wp2_with (go_at_call 63; refine (hgr _).mono ?_; rintro e w1 ⟨B, cap, rfl, hb1, ho1⟩)
      clear hgr
      go_loopw [6, 27] (fun nv i wr => ∃ k : Nat, k <= 3 /\ i = .int .i64 (k : Int) /\ ∃ B cap, nv = .slice (some ⟨B, 0, none⟩) (ac k).length cap /\ Hid (wr.ownsRow w.heap.size 3 1 nv (ac k).length (ivals (ac k))) /\ Below w.heap.size w wr) (fun _ i _ => 3 - (intOf i).toNat)
      case atStart => exact ⟨0, by omega, rfl, B, cap, by rw [HA0.out]; rfl, by rw [HA0.out]; exact ho1, hb1⟩
      case round =>
        obtain ⟨k, hk, rfl, B, cap, rfl, HU, hbel⟩ := hrel
        by_cases hlt : k < 3
        · obtain ⟨xo, xn, xc, xl, hc, _, _, _, hx12, hxn, hac, hal, hX⟩ := HAt.out k hlt
          have hcr := (hbel.cell (p := ⟨g, k, none⟩) hg).trans hc; have hown := HU.out; have HXN : Hid (xn = xl.length) := hxn; have HAC : Hid (ac (k + 1) = ac k ++ xl) := hac; obtain ⟨xo', xc', hxv, hx0, hxat⟩ := hX
          injection hxv with e1 e2 e3
          subst e1 e3; obtain ⟨us, hus⟩ : ∃ us, us = ivals (ac k) := ⟨_, rfl⟩
          have HUS : Hid (us = ivals (ac k)) := hus; obtain ⟨un, hun⟩ : ∃ un, un = (ac k).length := ⟨_, rfl⟩
          have HUN : Hid (un = (ac k).length) := hun; rw [<- hus, <- hun] at hown; rw [<- hun] at hal ⊢; clear hxn hac hus hun e2 HU
          cases xo with
          | none =>
            obtain ⟨hc0, hl0⟩ := hx0 rfl; have HL0 : Hid (xl = []) := hl0; have hxn0 : xn = 0 := by rw [HXN.out, HL0.out]; rfl
            subst hxn0 hc0; clear hx0 hxat hl0
            go_wp2_with (at_builtin; refine wpList_append_own_none rfl (.tmp 31) (.tmp 32) 36 rfl w.heap.size 3 i0 1 Tryz.underlying36 hi _ _ _ rfl hown rfl ?_)
            go_roundw
            case rel => exact ⟨k + 1, hlt, by go_num, B, cap, by rw [HAC.out, HL0.out, List.append_nil, HUN.out], by show World.ownsRow _ _ _ _ _ _ _; rw [HAC.out, HL0.out, List.append_nil, <- HUN.out, <- HUS.out]; exact hown, hbel⟩
            case measure => simp [intOf]; omega
          | some a =>
            have hcells : ∀ j u, (ivals xl)[j]? = some u -> wr.cell? (a.add j) = some u := by
              intro j u hj; have hjl : j < xl.length := by have := (List.getElem?_eq_some_iff.1 hj).1; simpa [ivals] using this
              obtain ⟨b, off, e, hbl, hat⟩ := hxat (by rintro rfl; simp at hjl)
              obtain rfl := Option.some.inj e; rw [Go.WideShapes.add_plain, (hb0.trans (hbel.mono hb0.size)).cell (p := ⟨b, off + j, none⟩) hbl, hat j hjl]; simp [ivals, hjl] at hj
              simp [List.getD_eq_getElem?_getD, hjl, hj]
            have hvl : (ivals xl).length = xn * 1 := by rw [HXN.out]; simp [ivals]
            have hv1 := ivals_one xl; have hbsz := hbel.size; have hnb := hown.lt; clear hx0 hxat
            go_wp2_with (at_builtin; refine wpList_append_own _ rfl (.tmp 31) (.tmp 32) 36 rfl w.heap.size 3 i0 (.int .i64 0) 1 8 Tryz.underlying36 hi hz0 hz1 hz2 rfl (by decide) (.slice (some ⟨B, 0, none⟩) un cap) un us rfl hown a xn xc (ivals xl) rfl hvl hcells hv1 (by unfold maxLen; omega) (by omega) hbsz ?_; intro v' w4 hown' hgrow hne)
            have hb4 : Below w.heap.size w w4 := hbel.grown hgrow hbsz (fun q hq => (hnb q hq).1)
            obtain ⟨B4, cap4, rfl⟩ : ∃ B4 cap4, v' = .slice (some ⟨B4, 0, none⟩) (un + xn) cap4 := by
              rcases hown'.2 with ⟨h, _⟩ | ⟨g', cap', cur', h, _⟩
              · exact absurd (hne.1 h).1 (by simp)
              · exact ⟨_, _, h⟩
            have HLn : Hid (un + xn = (ac (k + 1)).length) := by show _ = _; rw [HAC.out, List.length_append, <- HUN.out, HXN.out]
            have HU4 : Hid (w4.ownsRow w.heap.size 3 1 (.slice (some ⟨B4, 0, none⟩) (un + xn) cap4) (ac (k + 1)).length (ivals (ac (k + 1)))) := by
              show World.ownsRow _ _ _ _ _ _ _
              rw [<- HLn.out, HAC.out, show ivals (ac k ++ xl) = us ++ ivals xl by rw [HUS.out]; simp [ivals]]
              exact hown'
            clear hown' hgrow hown hcells hne
            go_roundw
            case rel => exact ⟨k + 1, hlt, by go_num, B4, cap4, by rw [HLn.out], HU4, hb4⟩
            case measure => simp [intOf]; omega
        · obtain rfl : k = 3 := by omega
          have HF : Hid (wr.ownsRow w.heap.size 3 1 (.slice (some ⟨B, 0, none⟩) tn cap) tn (ivals fl)) := by
            have h1 := HU.out; rw [HA3.out, <- HTn.out] at h1; exact h1
          rw [HA3.out, <- HTn.out]; clear HU
          go_wp2
          go_ret
          exact ⟨_, _, rfl, hbel, HF⟩
end Go.Proofs.YtjdfdmamonjnoaaGreatDoor
namespace Go.Proofs.YtjdfdmamonjnoaaGreatDoor
open Go.ChangeShapes Go.WideShapes Go.ChangeAt Go.RowKit Go.Deep Go.Maps
open Terms Tm
set_option maxHeartbeats 6400000
set_option maxRecDepth 20000
def IntsX (w : World) (v : Value) (l : List Int) : Prop := ∃ ao cap, v = .slice ao l.length cap /\ l.length <= cap /\ (ao = none -> cap = 0 /\ l = []) /\ (l ≠ [] -> ∃ b off, ao = some ⟨b, off, none⟩ /\ b < w.heap.size /\ IntsAt w b off l)
theorem IntsX.w {w : World} {v : Value} {l : List Int} (h : IntsX w v l) : IntsW w v l := by
  obtain ⟨ao, cap, h1, _, h2, h3⟩ := h; exact ⟨ao, cap, h1, h2, h3⟩
theorem IntsX.below {w w' : World} {v : Value} {l : List Int} (h : IntsX w v l) (hb : Below w.heap.size w w') : IntsX w' v l := by
  obtain ⟨ao, cap, h1, hc, h0, h⟩ := h; refine ⟨ao, cap, h1, hc, h0, fun hne => ?_⟩
  obtain ⟨b, off, e, hlt, hat⟩ := h hne; exact ⟨b, off, e, Nat.lt_of_lt_of_le hlt hb.size, fun i hi => (hb.cell (p := ⟨b, _, none⟩) hlt).trans (hat i hi)⟩
theorem intsX_of_owns {w : World} {base : Nat} {v : Value} {l : List Int} (h : w.ownsRow base 3 1 v l.length (ivals l)) : IntsX w v l := by
  rcases h.2 with ⟨rfl, h0⟩ | ⟨g, cap, cur, rfl, hb, hg, hnc, hcm, hcs, htake⟩
  · have : l = [] := by simpa using h0
    subst this; exact ⟨none, 0, rfl, Nat.le_refl _, fun _ => ⟨rfl, rfl⟩, fun h => absurd rfl h⟩
  · refine ⟨_, cap, rfl, hnc, fun h => by simp at h, fun _ => ⟨g, 0, rfl, (Array.getElem?_eq_some_iff.1 hg).1, fun i hi => ?_⟩⟩
    rw [Nat.zero_add, h.cellAt i (by omega)]
    simp [ivals, List.getD_eq_getElem?_getD, hi]
theorem runs_bad (va vr sv lv : Value) (m : Mo) (w : World) (hB : 0 < w.heap.size) (hT : TabAt w) (hV : ModelV w va vr m) (hm : mcode m ≠ 0) :
    Calls Tryz.prog 11 #[.agg #[va, vr], .agg #[sv, lv]] w fun e w' => e = .returned (.tuple #[.bool false, .int .i64 (mcode m)]) /\ Below w.heap.size w w' := by
  obtain ⟨W2, hW2⟩ : ∃ W2, W2 = (w.alloc (.cells #[va, vr] 30)).alloc (.cells #[sv, lv] 38) := ⟨_, rfl⟩
  have hb2 : Below w.heap.size w W2 := by rw [hW2]; exact ((Below.refl _ _).alloc (Nat.le_refl _) _).alloc (by simp) _
  have hfi := mfirst_any va vr m W2 (Nat.lt_of_lt_of_le hB hb2.size) (hT.below hb2 hB) (hV.below hb2); rw [if_neg hm] at hfi; obtain ⟨ao, ac, rfl⟩ := hV.1.shape; obtain ⟨ro, rc, rfl⟩ := hV.2.shape; generalize mcode m = q at *; generalize m.vars.length = vn at *; generalize m.rules.length = rn at *; clear hT hV; rw [hW2] at hfi
  go_enter Tryz.func11, Tryz.ntmps11
  go_wp2_with (go_at_call 20; refine hfi.mono ?_; rintro e w1 ⟨rfl, hb1⟩)
  go_ret2
  rw [<- hW2] at hb1; exact ⟨rfl, hb2.trans (hb1.mono hb2.size)⟩
theorem runs_ok (va vr sv lv : Value) (m : Mo) (ss ll : List Int) (w : World) (hB : 0 < w.heap.size) (hT : TabAt w) (hV : ModelV w va vr m) (hm : mcode m = 0) (hS : IntsX w sv ss) (hL : IntsX w lv ll) (hz : ss.length + ll.length <= 1099511627775) :
    Calls Tryz.prog 11 #[.agg #[va, vr], .agg #[sv, lv]] w fun e w' => e = .returned (.tuple #[.bool (runB m ss ll), .int .i64 0]) /\ Below w.heap.size w w' := by
  obtain ⟨W2, hW2⟩ : ∃ W2, W2 = (w.alloc (.cells #[va, vr] 30)).alloc (.cells #[sv, lv] 38) := ⟨_, rfl⟩
  have hb2 : Below w.heap.size w W2 := by rw [hW2]; exact ((Below.refl _ _).alloc (Nat.le_refl _) _).alloc (by simp) _
  have hz2 : W2.heap.size = w.heap.size + 2 := by rw [hW2]; simp
  have hfi := mfirst_any va vr m W2 (Nat.lt_of_lt_of_le hB hb2.size) (hT.below hb2 hB) (hV.below hb2); rw [if_pos hm, hm] at hfi
  have HBx : Hid (∀ w1, Below W2.heap.size W2 w1 -> Below w.heap.size w w1 /\ w.heap.size + 2 <= w1.heap.size /\ w1.cell? ⟨w.heap.size, 0, none⟩ = some va /\ w1.cell? ⟨w.heap.size, 1, none⟩ = some vr /\ w1.cell? ⟨w.heap.size + 1, 0, none⟩ = some sv /\ w1.cell? ⟨w.heap.size + 1, 1, none⟩ = some lv) := fun w1 h => by
    have hl : w.heap.size < W2.heap.size := by omega
    have hl1 : w.heap.size + 1 < W2.heap.size := by omega
    refine ⟨hb2.trans (h.mono hb2.size), by have := h.size; omega, (h.cell (p := ⟨w.heap.size, 0, none⟩) hl).trans ?_, (h.cell (p := ⟨w.heap.size, 1, none⟩) hl).trans ?_, (h.cell (p := ⟨w.heap.size + 1, 0, none⟩) hl1).trans ?_, (h.cell (p := ⟨w.heap.size + 1, 1, none⟩) hl1).trans ?_⟩ <;> (rw [hW2]; simp [go_sem])
  by_cases hl0 : ll = []
  · subst hl0
    rw [runB_none]; obtain ⟨lo, lc, rfl, _⟩ := hL; obtain ⟨ao, ac, rfl⟩ := hV.1.shape; obtain ⟨ro, rc, rfl⟩ := hV.2.shape; generalize codeTo m.vars (initsL m.vars) m.vars.length = fc at *; generalize m.vars.length = vn at *; generalize m.rules.length = rn at *; clear hT hV hS hm; rw [hW2] at hfi
    go_enter Tryz.func11, Tryz.ntmps11
    go_wp2_with (go_at_call 20; refine hfi.mono ?_; rintro e w1 ⟨rfl, hb1⟩; rw [<- hW2] at hb1; obtain ⟨hbw, _, _, _, k2, k3⟩ := HBx.out w1 hb1)
    go_ret2
    exact ⟨rfl, hbw⟩
  · have hlp : 0 < ll.length := List.length_pos_iff.2 hl0
    have HCon : Hid (∀ (g : Nat) (w1 : World) (lo : Option Addr) (lc : Nat), lv = .slice lo ll.length lc -> Below w.heap.size w w1 -> w1.cell? ⟨g, 0, none⟩ = some sv -> w1.cell? ⟨g, 1, none⟩ = some lv -> w1.cell? ⟨g, 2, none⟩ = some (.slice lo 1 lc) -> Calls Tryz.prog 29 #[.slice (some ⟨g, 0, none⟩) 3 3] w1 fun e w' => ∃ B cap, e = .returned (.slice (some ⟨B, 0, none⟩) (rvd ss ll).length cap) /\ Below w1.heap.size w1 w' /\ Hid (B < w'.heap.size /\ (rvd ss ll).length <= cap /\ IntsAt w' B 0 (rvd ss ll))) := fun g w1 lo lc hlv hb c0 c1 c2 => by
      have h := concatI_own g [ss, ll, [ll.getD 0 0]] w w1 hb rfl (by rw [rvd_flat, rvd_len]; omega) (by rw [rvd_flat, rvd_len]; omega) (fun k hk => by
        have hk3 : k = 0 \/ k = 1 \/ k = 2 := by omega
        rcases hk3 with rfl | rfl | rfl
        · exact ⟨sv, c0, hS.w⟩
        · exact ⟨lv, c1, hL.w⟩
        · refine ⟨_, c2, lo, lc, rfl, fun h => ?_, fun _ => ?_⟩
          · obtain ⟨_, _, e, _, hx, _⟩ := hL
            rw [hlv] at e
            injection e with e1 _ _
            subst e1; exact absurd (hx h).2 hl0
          · obtain ⟨_, _, e, _, _, hx⟩ := hL
            rw [hlv] at e
            injection e with e1 _ _
            subst e1; obtain ⟨b, off, e, hlt, hat⟩ := hx hl0; refine ⟨b, off, e, hlt, fun i hi => ?_⟩
            have hi0 : i = 0 := by simp at hi; omega
            subst hi0
            exact hat 0 hlp)
      rw [rvd_flat] at h; refine h.mono fun e w' ⟨B, cap, e1, e2, e3⟩ => ⟨B, cap, e1, e2, ?_⟩
      obtain ⟨ao, cap', e4, e5, _, e6⟩ := intsX_of_owns e3.out
      injection e4 with e7 _ e8
      subst e7 e8; obtain ⟨b, off, e9, e10, e11⟩ := e6 (by simp [rvd])
      injection e9 with e9
      injection e9 with e12 e13
      subst e12 e13; exact ⟨e10, e5, e11⟩
    have HLd : Hid (∀ (B cap : Nat) (w1 : World), Below w.heap.size w w1 -> (B < w1.heap.size /\ (rvd ss ll).length <= cap /\ IntsAt w1 B 0 (rvd ss ll)) -> (rvd ss ll).getD 0 0 = firstC m -> Calls Tryz.prog 30 #[.agg #[va, vr], .slice (some ⟨B, 0, none⟩) (rvd ss ll).length cap] w1 fun e w' => e = .returned (.bool (runB m ss ll)) /\ Below w1.heap.size w1 w') := fun B cap w1 hb h hf => by
      rw [runB_lead hm hl0 hf]; exact allLead_any va vr m B 0 cap (rvd ss ll) w1 (Nat.lt_of_lt_of_le hB hb.size) (hT.below hb hB) (hV.below hb) hm (by rw [rvd_len]; omega) (by rw [rvd_len]; omega) h.2.1 h.1 h.2.2 (by rw [hf]; exact firstC_range hm)
    have HNo : Hid ((rvd ss ll).getD 0 0 ≠ firstC m -> runB m ss ll = false) := fun h => runB_first h
    have hrp : 0 < (rvd ss ll).length := by rw [rvd_len]; omega
    have hfe : codeTo m.vars (initsL m.vars) m.vars.length = firstC m := rfl; rw [hfe] at hfi; generalize firstC m = fc at *; generalize runB m ss ll = res at *; generalize rvd ss ll = rd at *; obtain ⟨lo, lc, rfl, hlc, _⟩ := id hL; obtain ⟨so, sc, rfl, _⟩ := id hS; obtain ⟨ao, ac, rfl⟩ := hV.1.shape; obtain ⟨ro, rc, rfl⟩ := hV.2.shape; have HC1 := fun g w1 => HCon.out g w1 lo lc rfl
    have HCon : Hid _ := HC1; clear HC1; obtain ⟨rn2, hrn2⟩ : ∃ x, x = rd.length := ⟨_, rfl⟩
    have HRn : Hid (rn2 = rd.length) := hrn2; rw [<- hrn2] at hrp HCon HLd; generalize m.vars.length = vn at *; generalize m.rules.length = rn at *; generalize ll.length = ln at *; generalize ss.length = sn at *; have hlc1 : 1 <= lc := by omega
    clear hT hV hS hL hm hl0 hfe hrn2 hz; rw [hW2] at hfi
    go_enter Tryz.func11, Tryz.ntmps11
    go_wp2_with (go_at_call 20; refine hfi.mono ?_; rintro e w1 ⟨rfl, hb1⟩; rw [<- hW2] at hb1; obtain ⟨hbw, hsz, k0, k1, k2, k3⟩ := HBx.out w1 hb1)
    have hcx := HCon.out w1.heap.size (w1.drew.alloc (.cells #[.slice so sn sc, .slice lo ln lc, .slice lo 1 lc] 36)) (hbw.drew.alloc hbw.size _) (by simp [go_sem]) (by simp [go_sem]) (by simp [go_sem])
    have HSC : Hid (∀ w', Below w1.heap.size w1 w' -> w'.cell? ⟨w.heap.size + 1, 0, none⟩ = some (.slice so sn sc) /\ w'.cell? ⟨w.heap.size + 1, 1, none⟩ = some (.slice lo ln lc)) := fun w' h => by
      have hl : w.heap.size + 1 < w1.heap.size := by omega
      exact ⟨(h.cell (p := ⟨w.heap.size + 1, 0, none⟩) hl).trans k2, (h.cell (p := ⟨w.heap.size + 1, 1, none⟩) hl).trans k3⟩
    have hB0 : Below w1.heap.size w1 w1 := Below.refl _ _
    have HM : Hid (∀ w', Below w1.heap.size w1 w' -> Below w.heap.size w w' /\ w'.cell? ⟨w.heap.size, 0, none⟩ = some (.slice ao vn ac) /\ w'.cell? ⟨w.heap.size, 1, none⟩ = some (.slice ro rn rc)) := fun w' h => by
      have hl : w.heap.size < w1.heap.size := by omega
      exact ⟨hbw.trans (h.mono hbw.size), (h.cell (p := ⟨w.heap.size, 0, none⟩) hl).trans k0, (h.cell (p := ⟨w.heap.size, 1, none⟩) hl).trans k1⟩
    have hlc2 : (1 : Int) <= (lc : Int) := by omega
    clear hfi hb1
    go_region_held3 (fun w' => w'.cell? ⟨w.heap.size + 1, 0, none⟩ = some (.slice so sn sc) /\ w'.cell? ⟨w.heap.size + 1, 1, none⟩ = some (.slice lo ln lc))
      (first | exact HSC.out _ hb12 | exact HSC.out _ (hB0.drew.alloc hB0.drew.size _) | exact HSC.out _ hB0.drew | exact HSC.out _ hB0)
      (first
        | (go_at_call 29; refine hcx.mono ?_; rintro e w3 ⟨B, cap, rfl, hb3, HR⟩; have hb12 : Below w1.heap.size w1 w3 := (hB0.drew.alloc hB0.drew.size _).trans (hb3.mono (by simp))))
    obtain ⟨hbw3, m0, m1⟩ := HM.out w3 hb12; have hR := HR.out; have HLd3 := HLd.out B cap w3 hbw3 hR; have cz := hR.2.2 0 (by rw [<- HRn.out]; exact hrp)
    rw [Nat.zero_add] at cz; clear hR HR
    by_cases hf : rd.getD 0 0 = fc
    · have hld := HLd3 hf
      rw [hf] at cz; clear HLd3 hf HNo
      go_wp2_with (go_at_call 30; refine hld.mono ?_; rintro e w4 ⟨rfl, hb4⟩)
      go_ret2
      exact ⟨rfl, hbw3.trans (hb4.mono hbw3.size)⟩
    · have HNf : Hid (res = false) := HNo.out hf
      generalize rd.getD 0 0 = y at *; clear HLd3
      go_wp2_with fail
      go_ret2
      exact ⟨by rw [HNf.out]; first | rfl | simp [hf], hbw3⟩
theorem runs_any (va vr sv lv : Value) (m : Mo) (ss ll : List Int) (w : World) (hB : 0 < w.heap.size) (hT : TabAt w) (hV : ModelV w va vr m) (hS : IntsX w sv ss) (hL : IntsX w lv ll) (hz : ss.length + ll.length <= 1099511627775) :
    Calls Tryz.prog 11 #[.agg #[va, vr], .agg #[sv, lv]] w fun e w' => e = .returned (.tuple #[.bool (runB m ss ll), .int .i64 (mcode m)]) /\ Below w.heap.size w w' := by
  by_cases hm : mcode m = 0
  · have h := runs_ok va vr sv lv m ss ll w hB hT hV hm hS hL hz
    rw [hm]; exact h
  · rw [runB_bad hm]
    exact runs_bad va vr sv lv m w hB hT hV hm
end Go.Proofs.YtjdfdmamonjnoaaGreatDoor
namespace Go.Proofs.YtjdfdmamonjnoaaGreatDoor
open Go.ChangeShapes Go.WideShapes Go.ChangeAt Go.RowKit Go.Deep
open Terms Tm
set_option maxHeartbeats 6400000
set_option maxRecDepth 20000
def Bx2 (w W2 : World) (va vr pv fv sv lv : Value) : Prop := Below w.heap.size w W2 /\ W2.heap.size = w.heap.size + 2 /\ ∀ w1, Below W2.heap.size W2 w1 -> Below w.heap.size w w1 /\ (w1.cell? ⟨w.heap.size, 0, none⟩ = some va /\ w1.cell? ⟨w.heap.size, 1, none⟩ = some vr /\ w1.cell? ⟨w.heap.size, 2, none⟩ = some pv /\ w1.cell? ⟨w.heap.size, 3, none⟩ = some fv) /\ w1.cell? ⟨w.heap.size + 1, 0, none⟩ = some sv /\ w1.cell? ⟨w.heap.size + 1, 1, none⟩ = some lv
theorem Bx2.new (w : World) (va vr pv fv sv lv : Value) : Bx2 w ((w.alloc (.cells #[va, vr, pv, fv] 34)).alloc (.cells #[sv, lv] 38)) va vr pv fv sv lv := by
  obtain ⟨W2, hW2⟩ : ∃ W2, W2 = (w.alloc (.cells #[va, vr, pv, fv] 34)).alloc (.cells #[sv, lv] 38) := ⟨_, rfl⟩
  rw [<- hW2]; have hb2 : Below w.heap.size w W2 := by rw [hW2]; exact ((Below.refl _ _).alloc (Nat.le_refl _) _).alloc (by simp) _
  have hz2 : W2.heap.size = w.heap.size + 2 := by rw [hW2]; simp
  refine ⟨hb2, hz2, fun w1 h => ?_⟩
  have hl : w.heap.size < W2.heap.size := by omega
  have hl1 : w.heap.size + 1 < W2.heap.size := by omega
  refine ⟨hb2.trans (h.mono hb2.size), ⟨(h.cell (p := ⟨w.heap.size, 0, none⟩) hl).trans ?_, (h.cell (p := ⟨w.heap.size, 1, none⟩) hl).trans ?_, (h.cell (p := ⟨w.heap.size, 2, none⟩) hl).trans ?_, (h.cell (p := ⟨w.heap.size, 3, none⟩) hl).trans ?_⟩, (h.cell (p := ⟨w.heap.size + 1, 0, none⟩) hl1).trans ?_, (h.cell (p := ⟨w.heap.size + 1, 1, none⟩) hl1).trans ?_⟩ <;> (rw [hW2]; simp [go_sem])
theorem keeps_task (va vr pv fv sv lv : Value) (m : Mo) (ps : List (List (Int × Int))) (l : List (Int × Int)) (w : World) (hB : 0 < w.heap.size) (hT : TabAt w) (hV : TaskV w va vr pv fv m ps l) (hk : tkcode m ps l ≠ 0) :
    Calls Tryz.prog 12 #[.agg #[va, vr, pv, fv], .agg #[sv, lv]] w fun e w' => e = .returned (.tuple #[.bool false, .int .i64 (tkcode m ps l)]) /\ Below w.heap.size w w' := by
  obtain ⟨W2, hW2⟩ : ∃ W2, W2 = (w.alloc (.cells #[va, vr, pv, fv] 34)).alloc (.cells #[sv, lv] 38) := ⟨_, rfl⟩
  have hbx : Bx2 w W2 va vr pv fv sv lv := by rw [hW2]; exact Bx2.new _ _ _ _ _ _ _
  obtain ⟨hb2, hz2, HBx'⟩ := hbx; have HBx : Hid _ := HBx'; have hch := pcheck_any va vr pv fv m ps l W2 (Nat.lt_of_lt_of_le hB hb2.size) (hT.below hb2 hB) (hV.below hb2); generalize tkcode m ps l = q at *; clear hT hV HBx'; rw [hW2] at hch
  go_enter Tryz.func12, Tryz.ntmps12
  go_wp2_with (go_at_call 31; refine hch.mono ?_; rintro e w1 ⟨rfl, hb1⟩; rw [<- hW2] at hb1)
  go_ret2
  exact ⟨rfl, (HBx.out w1 hb1).1⟩
theorem keeps_size (va vr pv fv sv lv : Value) (m : Mo) (ps : List (List (Int × Int))) (l : List (Int × Int)) (ss ll : List Int) (w : World) (hB : 0 < w.heap.size) (hT : TabAt w) (hV : TaskV w va vr pv fv m ps l) (hk : tkcode m ps l = 0) (hS : IntsX w sv ss) (hL : IntsX w lv ll) (h12 : 12 < ss.length \/ 12 < ll.length) :
    Calls Tryz.prog 12 #[.agg #[va, vr, pv, fv], .agg #[sv, lv]] w fun e w' => e = .returned (.tuple #[.bool false, .int .i64 1]) /\ Below w.heap.size w w' := by
  obtain ⟨W2, hW2⟩ : ∃ W2, W2 = (w.alloc (.cells #[va, vr, pv, fv] 34)).alloc (.cells #[sv, lv] 38) := ⟨_, rfl⟩
  have hbx : Bx2 w W2 va vr pv fv sv lv := by rw [hW2]; exact Bx2.new _ _ _ _ _ _ _
  obtain ⟨hb2, hz2, HBx'⟩ := hbx; have HBx : Hid _ := HBx'; have hch := pcheck_any va vr pv fv m ps l W2 (Nat.lt_of_lt_of_le hB hb2.size) (hT.below hb2 hB) (hV.below hb2); rw [hk] at hch; obtain ⟨so, sc, rfl, _⟩ := hS; obtain ⟨lo, lc, rfl, _⟩ := hL; generalize ss.length = sn at *; generalize ll.length = ln at *; clear hT hV HBx' hk; rw [hW2] at hch
  by_cases h1 : 12 < sn
  · have h1i : (12 : Int) < (sn : Int) := by omega
    clear h12
    go_enter Tryz.func12, Tryz.ntmps12
    go_wp2_with (go_at_call 31; refine hch.mono ?_; rintro e w1 ⟨rfl, hb1⟩; rw [<- hW2] at hb1; obtain ⟨hbw, _, k0, k1⟩ := HBx.out w1 hb1)
    go_ret2
    exact ⟨rfl, hbw⟩
  · have h2 : 12 < ln := by omega
    have h2i : (12 : Int) < (ln : Int) := by omega
    have h1i : ¬ (12 : Int) < (sn : Int) := by omega
    clear h12
    go_enter Tryz.func12, Tryz.ntmps12
    go_wp2_with (go_at_call 31; refine hch.mono ?_; rintro e w1 ⟨rfl, hb1⟩; rw [<- hW2] at hb1; obtain ⟨hbw, _, k0, k1⟩ := HBx.out w1 hb1)
    go_ret2
    exact ⟨rfl, hbw⟩
theorem keeps_norun (va vr pv fv sv lv : Value) (m : Mo) (ps : List (List (Int × Int))) (l : List (Int × Int)) (ss ll : List Int) (w : World) (hB : 0 < w.heap.size) (hT : TabAt w) (hV : TaskV w va vr pv fv m ps l) (hk : tkcode m ps l = 0) (hS : IntsX w sv ss) (hL : IntsX w lv ll) (h1 : ss.length <= 12) (h2 : ll.length <= 12) (hr : runB m ss ll = false) :
    Calls Tryz.prog 12 #[.agg #[va, vr, pv, fv], .agg #[sv, lv]] w fun e w' => e = .returned (.tuple #[.bool false, .int .i64 11]) /\ Below w.heap.size w w' := by
  obtain ⟨W2, hW2⟩ : ∃ W2, W2 = (w.alloc (.cells #[va, vr, pv, fv] 34)).alloc (.cells #[sv, lv] 38) := ⟨_, rfl⟩
  have hbx : Bx2 w W2 va vr pv fv sv lv := by rw [hW2]; exact Bx2.new _ _ _ _ _ _ _
  obtain ⟨hb2, hz2, HBx'⟩ := hbx; have HBx : Hid _ := HBx'; have hch := pcheck_any va vr pv fv m ps l W2 (Nat.lt_of_lt_of_le hB hb2.size) (hT.below hb2 hB) (hV.below hb2); rw [hk] at hch; have hm := (pcode_m (tk_zeroV hk).1).1
  have HRu : Hid (∀ w1, Below w.heap.size w w1 -> Calls Tryz.prog 11 #[.agg #[va, vr], .agg #[sv, lv]] w1 fun e w' => e = .returned (.tuple #[.bool false, .int .i64 0]) /\ Below w1.heap.size w1 w') := fun w1 h => by
    have h9 := runs_any va vr sv lv m ss ll w1 (Nat.lt_of_lt_of_le hB h.size) (hT.below h hB) (hV.mo.below h) (hS.below h) (hL.below h) (by omega)
    rw [hr, hm] at h9; exact h9
  obtain ⟨so, sc, rfl, _⟩ := id hS; obtain ⟨lo, lc, rfl, _⟩ := id hL; obtain ⟨ao, ac, rfl⟩ := hV.mo.1.shape; obtain ⟨ro, rc, rfl⟩ := hV.mo.2.shape; generalize ss.length = sn at *; generalize ll.length = ln at *; generalize m.vars.length = vn at *; generalize m.rules.length = rn at *; clear hT hV HBx' hk hS hL hr hm; rw [hW2] at hch; have h2i : ¬ (12 : Int) < (ln : Int) := by omega
  have h1i : ¬ (12 : Int) < (sn : Int) := by omega
  go_enter Tryz.func12, Tryz.ntmps12
  go_wp2_with (first | (go_at_call 31; refine hch.mono ?_; rintro e w1 ⟨rfl, hb1⟩; rw [<- hW2] at hb1; obtain ⟨hbw, ⟨k0, k1, k2, k3⟩, k4, k5⟩ := HBx.out w1 hb1; have hru := HRu.out w1 hbw) | (go_at_call 11; refine hru.mono ?_; rintro e w3 ⟨rfl, hb3⟩))
  go_ret2
  exact ⟨rfl, hbw.trans (hb3.mono hbw.size)⟩
theorem keeps_ok (va vr pv fv sv lv : Value) (m : Mo) (ps : List (List (Int × Int))) (l : List (Int × Int)) (ss ll : List Int) (t : Tm) (w : World) (hB : 0 < w.heap.size) (hT : TabAt w) (hV : TaskV w va vr pv fv m ps l) (hk : tkcode m ps l = 0) (hS : IntsX w sv ss) (hL : IntsX w lv ll) (h1 : ss.length <= 12) (h2 : ll.length <= 12) (hr : runB m ss ll = true) (hwf : t.Wf) (hto : t.ops = l) :
    Calls Tryz.prog 12 #[.agg #[va, vr, pv, fv], .agg #[sv, lv]] w fun e w' => e = .returned (.tuple #[.bool (t.hb (sig (lets m ps ss ++ lets m ps ll) ss.length) 0), .int .i64 0]) /\ Below w.heap.size w w' := by
  obtain ⟨W2, hW2⟩ : ∃ W2, W2 = (w.alloc (.cells #[va, vr, pv, fv] 34)).alloc (.cells #[sv, lv] 38) := ⟨_, rfl⟩
  have hbx : Bx2 w W2 va vr pv fv sv lv := by rw [hW2]; exact Bx2.new _ _ _ _ _ _ _
  obtain ⟨hb2, hz2, HBx'⟩ := hbx; have HBx : Hid _ := HBx'; have hch := pcheck_any va vr pv fv m ps l W2 (Nat.lt_of_lt_of_le hB hb2.size) (hT.below hb2 hB) (hV.below hb2); rw [hk] at hch; have hm := (pcode_m (tk_zeroV hk).1).1
  have HRu : Hid (∀ w1, Below w.heap.size w w1 -> Calls Tryz.prog 11 #[.agg #[va, vr], .agg #[sv, lv]] w1 fun e w' => e = .returned (.tuple #[.bool true, .int .i64 0]) /\ Below w1.heap.size w1 w') := fun w1 h => by
    have h9 := runs_any va vr sv lv m ss ll w1 (Nat.lt_of_lt_of_le hB h.size) (hT.below h hB) (hV.mo.below h) (hS.below h) (hL.below h) (by omega)
    rw [hr, hm] at h9; exact h9
  obtain ⟨so, sc, rfl, _⟩ := id hS; obtain ⟨lo, lc, rfl, _⟩ := id hL
  have HL1 : Hid (∀ w1, Below w.heap.size w w1 -> Calls Tryz.prog 32 #[.agg #[va, vr, pv, fv], .slice so ss.length sc] w1 fun e w' => ∃ g, e = .returned (.tuple #[.slice (some ⟨g, 0, none⟩) ss.length ss.length, .int .i64 0]) /\ Below w1.heap.size w1 w' /\ Hid (LettersV w' (.slice (some ⟨g, 0, none⟩) ss.length ss.length) (lets m ps ss))) := fun w1 h => lettersOf_any va vr pv fv so sc m ps l ss w1 (Nat.lt_of_lt_of_le hB h.size) (hT.below h hB) (hV.below h) hk h1 (run_range hr).1 (hS.below h).w.v
  have HL2 : Hid (∀ w1, Below w.heap.size w w1 -> Calls Tryz.prog 32 #[.agg #[va, vr, pv, fv], .slice lo ll.length lc] w1 fun e w' => ∃ g, e = .returned (.tuple #[.slice (some ⟨g, 0, none⟩) ll.length ll.length, .int .i64 0]) /\ Below w1.heap.size w1 w' /\ Hid (LettersV w' (.slice (some ⟨g, 0, none⟩) ll.length ll.length) (lets m ps ll))) := fun w1 h => lettersOf_any va vr pv fv lo lc m ps l ll w1 (Nat.lt_of_lt_of_le hB h.size) (hT.below h hB) (hV.below h) hk h2 (run_range hr).2 (hL.below h).w.v
  have HHo : Hid (∀ (w1 : World) (x y : Value), Below w.heap.size w w1 -> LettersV w1 x (lets m ps ss) -> LettersV w1 y (lets m ps ll) -> Calls Tryz.prog 18 #[fv, .agg #[x, y], .int .i64 (ps.length : Int)] w1 fun e w' => e = .returned (.tuple #[.bool (t.hb (sig (lets m ps ss ++ lets m ps ll) ss.length) 0), .int .i64 0]) /\ Below w1.heap.size w1 w') := fun w1 x y h hx hy => by
    have h9 := holds_ok fv x y l (lets m ps ss) (lets m ps ll) ps.length t w1 (Nat.lt_of_lt_of_le hB h.size) (hT.below h hB) (hV.fo.below h) hx hy (run_word hk h1 h2 hr) hwf hto; rw [lets_len] at h9; exact h9
  obtain ⟨ao, ac, rfl⟩ := hV.mo.1.shape; obtain ⟨ro, rc, rfl⟩ := hV.mo.2.shape; obtain ⟨po, pc, rfl⟩ := hV.ps.shape; obtain ⟨fo, fc, rfl, _⟩ := id hV.fo; generalize t.hb (sig (lets m ps ss ++ lets m ps ll) ss.length) 0 = res at *; generalize lets m ps ss = Ls at *; generalize lets m ps ll = Ll at *; generalize ss.length = sn at *; generalize ll.length = ln at *; generalize m.vars.length = vn at *
  generalize m.rules.length = rn at *; generalize ps.length = pn at *; generalize l.length = fn at *; clear hT hV HBx' hk hS hL hr hm hto; rw [hW2] at hch; have h2i : ¬ (12 : Int) < (ln : Int) := by omega
  have h1i : ¬ (12 : Int) < (sn : Int) := by omega
  have tk1 := True.intro
  go_enter Tryz.func12, Tryz.ntmps12
  go_wp2_with (first | (go_at_call 31; refine hch.mono ?_; rintro e w1 ⟨rfl, hb1⟩; rw [<- hW2] at hb1; obtain ⟨hbw, ⟨k0, k1, k2, k3⟩, k4, k5⟩ := HBx.out w1 hb1; have hru := HRu.out w1 hbw) | (go_at_call 11; refine hru.mono ?_; rintro e w3 ⟨rfl, hb3⟩; have hb13 := hb1.trans (hb3.mono hb1.size); obtain ⟨hbw3, ⟨m0, m1, m2, m3⟩, m4, m5⟩ := HBx.out w3 hb13; have hl1 := HL1.out w3 hbw3) | (clear tk1; go_at_call 32; refine hl1.mono ?_; rintro e w4 ⟨g1, rfl, hb4, HW1⟩; have hb14 := hb13.trans (hb4.mono hb13.size); obtain ⟨hbw4, ⟨n0, n1, n2, n3⟩, n4, n5⟩ := HBx.out w4 hb14; have hl2 := HL2.out w4 hbw4) | (go_at_call 32; refine hl2.mono ?_; rintro e w5 ⟨g2, rfl, hb5, HW2⟩; have hb15 := hb14.trans (hb5.mono hb14.size); obtain ⟨hbw5, ⟨p0, p1, p2, p3⟩, p4, p5⟩ := HBx.out w5 hb15; have hho := HHo.out w5 _ _ hbw5 (HW1.out.below hb5) HW2.out) | (go_at_call 18; refine hho.mono ?_; rintro e w6 ⟨rfl, hb6⟩))
  go_ret2
  exact ⟨rfl, hbw5.trans (hb6.mono hbw5.size)⟩
end Go.Proofs.YtjdfdmamonjnoaaGreatDoor
namespace Go.Proofs.YtjdfdmamonjnoaaGreatDoor
open Go.ChangeShapes Go.WideShapes Go.ChangeAt Go.RowKit Go.Deep Go.Maps
open Terms Tm
set_option maxHeartbeats 6400000
set_option maxRecDepth 20000
def tkB (va vr pv fv : Value) : Obj := .cells #[va, vr, pv, fv] 34 (0, 0)
theorem tkB_cells {w : World} {X : Nat} {va vr pv fv : Value} (hb : w.heap[X]? = some (tkB va vr pv fv)) : w.cell? ⟨X, 0, none⟩ = some va /\ w.cell? ⟨X, 1, none⟩ = some vr /\ w.cell? ⟨X, 2, none⟩ = some pv /\ w.cell? ⟨X, 3, none⟩ = some fv := by
  unfold tkB at hb; refine ⟨?_, ?_, ?_, ?_⟩ <;> simp [World.cell?, hb]
section
variable {w1 wx w' : World} {X : Nat} {va vr pv : Value} {fo : Option Addr} {fn fc : Nat} {m : Mo} {l : List (Int × Int)}
end
end Go.Proofs.YtjdfdmamonjnoaaGreatDoor
