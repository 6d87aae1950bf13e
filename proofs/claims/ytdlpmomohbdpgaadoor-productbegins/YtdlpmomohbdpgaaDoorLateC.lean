/-
  Joined out of RefValues, RefAfter, RefLetter, RefTruths, RefTruL, RefBegin, PbegWalk, in their order: a claim bears at most so many files.
-/
import Derived.Test.YtdlpmomohbdpgaaDoorLateB
import Derived.Test.YtdlpmomohbdpgaaDoorLateA
import Derived.Deep.AppendLies
import Derived.Deep.RegionHeld3
import Derived.Test.YtdlpmomohbdpgaaDoorTasksOf
/-
  The contract of the document's own ValuesOf.
-/
namespace Go.Proofs.YtdlpmomohbdpgaaDoor
open Go.ChangeShapes Go.WideShapes Go.ChangeAt Go.RowKit Go.Deep
open Terms Tm

theorem ivals_snoc (f : Nat → Int) (k : Nat) : ivals ((List.range (k + 1)).map f) = ivals ((List.range k).map f) ++ [.int .i64 (f k)] := by
  simp [ivals, List.range_succ]

theorem rvalues_bad (va vr : Value) (m : Mo) (code : Int) (w : World) (hV : ModelV w va vr m) (h : mcode m ≠ 0) :
    Calls Tryd.prog 27 #[.agg #[va, vr], .int .i64 code] w fun e w' => e = .returned (.tuple #[.slice none 0 0, .int .i64 (mcode m)]) ∧ Below w.heap.size w w' := by
  have hA : ∀ o, Below w.heap.size w (w.alloc o) := fun o => (Below.refl _ _).alloc (Nat.le_refl _) o
  have hch := fun o => rcount_any va vr m (w.alloc o) (hV.below (hA o))
  rw [if_neg h] at hch
  obtain ⟨ao, cap, rfl⟩ := hV.1.shape
  obtain ⟨ro, rc, rfl⟩ := hV.2.shape
  generalize mcode m = x at *
  generalize m.vars.length = n at *
  generalize m.rules.length = rn at *
  clear hV
  go_enter Tryd.func27, Tryd.ntmps27
  go_wp2_with (go_at_call 46; refine (hch _).mono ?_; rintro e w1 ⟨rfl, hb1⟩)
  go_ret2
  exact ⟨rfl, (hA _).trans (hb1.mono (hA _).size)⟩
theorem rvalues_no (va vr : Value) (m : Mo) (code : Int) (w : World) (hV : ModelV w va vr m) (h : mcode m = 0) (hc : ¬ (0 ≤ code ∧ code < prodTo m.vars m.vars.length)) :
    Calls Tryd.prog 27 #[.agg #[va, vr], .int .i64 code] w fun e w' => e = .returned (.tuple #[.slice none 0 0, .int .i64 9]) ∧ Below w.heap.size w w' := by
  have hA : ∀ o, Below w.heap.size w (w.alloc o) := fun o => (Below.refl _ _).alloc (Nat.le_refl _) o
  have hch := fun o => rcount_any va vr m (w.alloc o) (hV.below (hA o))
  rw [if_pos h, h] at hch
  have hN := (mcode_vars h).prod (j := m.vars.length) (Nat.le_refl _)
  obtain ⟨ao, cap, rfl⟩ := hV.1.shape
  obtain ⟨ro, rc, rfl⟩ := hV.2.shape
  generalize prodTo m.vars m.vars.length = N at *
  generalize m.vars.length = n at *
  generalize m.rules.length = rn at *
  have hin := fun w => in_any code 0 (N - 1) w
  rw [decide_eq_false (show ¬ (0 ≤ code ∧ code ≤ N - 1) by omega)] at hin
  clear hV h hc
  go_enter Tryd.func27, Tryd.ntmps27
  go_wp2_with (first | (go_at_call 46; refine (hch _).mono ?_; rintro e w1 ⟨rfl, hb1⟩) | (go_at_call 30; refine (hin _).mono ?_; rintro e w2 ⟨rfl, rfl⟩))
  go_ret2
  exact ⟨rfl, (hA _).trans (hb1.mono (hA _).size)⟩

set_option maxHeartbeats 3200000 in
theorem rvalues_loop (va vr : Value) (m : Mo) (code : Int) (w : World) (hV : ModelV w va vr m) (h : mcode m = 0) (hc : 0 ≤ code ∧ code < prodTo m.vars m.vars.length) :
    Calls Tryd.prog 27 #[.agg #[va, vr], .int .i64 code] w fun e w' => ∃ v, e = .returned (.tuple #[v, .int .i64 0]) ∧ Below w.heap.size w w' ∧ IntsV w' v (valsL m.vars code) := by
  have hA : ∀ o, Below w.heap.size w (w.alloc o) := fun o => (Below.refl _ _).alloc (Nat.le_refl _) o
  have hch := fun o => rcount_any va vr m (w.alloc o) (hV.below (hA o))
  rw [if_pos h, h] at hch
  have hok := mcode_vars h
  have HOK : Hid (VarsOk m.vars) := hok
  have h6 := hok.1
  obtain ⟨ao, cap, rfl⟩ := hV.1.shape
  obtain ⟨ro, rc, rfl⟩ := hV.2.shape
  have hbv := (fun w1 (hb : Below w.heap.size w w1) a (ha : a ≤ m.vars.length) => behindVar_any (.slice ao m.vars.length cap) ro m.rules.length rc m.vars a w1 hok ha (hV.1.below hb))
  have HBV := (show Hid _ from hbv)
  have HV : Hid (VarsV w (.slice ao m.vars.length cap) m.vars) := hV.1
  have hN := hok.prod (j := m.vars.length) (Nat.le_refl _)
  have HS0 : Hid (segP m.vars 0 = prodTo m.vars m.vars.length) := segP_zero _
  obtain ⟨hc1, hc2⟩ := hc
  generalize prodTo m.vars m.vars.length = N at *
  obtain ⟨n, hn⟩ : ∃ n, n = m.vars.length := ⟨_, rfl⟩
  have HN : Hid (n = m.vars.length) := hn
  rw [← hn] at h6 hch HBV HV ⊢
  generalize m.rules.length = rn at *
  have hin := fun w => in_any code 0 (N - 1) w
  rw [decide_eq_true (show (0 ≤ code ∧ code ≤ N - 1) by omega)] at hin
  obtain ⟨i0, hi, hz0, hz1, hz2⟩ := info_parts infoInt
  have HL : Hid (valsL m.vars code = (List.range n).map (valAt m.vars code)) := by show _ = _; rw [HN.out]; rfl
  clear hV hn hok h hbv
  go_enter Tryd.func27, Tryd.ntmps27
  go_wp2_with (first | (go_at_call 46; refine (hch _).mono ?_; rintro e w1 ⟨rfl, hb1⟩) | (go_at_call 30; refine (hin _).mono ?_; rintro e w2 ⟨rfl, rfl⟩))
  have hb1' : Below (w.heap.size + 1) (w.alloc (.cells #[.slice ao n cap, .slice ro rn rc] 25)) w2 := hb1.mono (by simp)
  clear hch hin hb1
  go_loopw [1, 8, 9] (fun cd vv i wr => ∃ k : Nat, k ≤ n ∧ i = .int .i64 k ∧ cd = .int .i64 (code % segP m.vars k) ∧ Hid (wr.ownsRow (w.heap.size + 1) 3 1 vv k (ivals ((List.range k).map (valAt m.vars code)))) ∧ Below (w.heap.size + 1) (w.alloc (.cells #[.slice ao n cap, .slice ro rn rc] 25)) wr) (fun _ _ i _ => n - (intOf i).toNat)
  case atStart => exact ⟨0, Nat.zero_le _, rfl, by rw [HS0.out, Int.emod_eq_of_lt hc1 hc2], World.ownsRow_nil _ _ _ _, hb1'⟩
  case round =>
    obtain ⟨k, hk, rfl, rfl, HOwn, hbelB⟩ := hrel
    clear hb1'
    have hbel := (hA _).trans (hbelB.mono (Nat.le_succ _))
    have hszb : w.heap.size + 1 ≤ wr.heap.size := by have := hbelB.size; simp at this; omega
    have hlb : w.heap.size < wr.heap.size := by omega
    have cb := (hbelB.cell (p := ⟨w.heap.size, 0, none⟩) (by simp)).trans (show _ = some (.slice ao n cap) by simp [go_sem])
    have cb1 := (hbelB.cell (p := ⟨w.heap.size, 1, none⟩) (by simp)).trans (show _ = some (.slice ro rn rc) by simp [go_sem])
    by_cases hlt : k < n
    · obtain ⟨b, off, rfl, hblt, hat⟩ := HV.out.at (i := k) (by rw [← HN.out]; exact hlt)
      obtain ⟨c0, c1, c2, c3⟩ := hat.below hbel hblt
      have hvb := HOK.out.at (j := k) (by rw [← HN.out]; exact hlt)
      have hsg := segP_bounds HOK.out (i := k + 1) (by rw [← HN.out]; exact hlt)
      have hsg0 := segP_bounds HOK.out (i := k) (by rw [← HN.out]; exact hk)
      have HQ : Hid ((code % segP m.vars k) % segP m.vars (k + 1) = code % segP m.vars (k + 1)) := mod_step code (by rw [← HN.out]; exact hlt)
      have HVa : Hid ((m.vars.getD k vr0).lo + (code % segP m.vars k) / segP m.vars (k + 1) = valAt m.vars code k) := valAt_ref HOK.out code (by rw [← HN.out]; exact hlt)
      have HSn := (show Hid _ from ivals_snoc (valAt m.vars code) k)
      have hcd0 := Int.emod_nonneg code (show segP m.vars k ≠ 0 by omega)
      have hcd1 := Int.emod_lt_of_pos code (show 0 < segP m.vars k by omega)
      have hbvk := HBV.out wr hbel (k + 1) (by omega)
      rw [show ((k + 1 : Nat) : Int) - 1 = (k : Int) by omega] at hbvk
      generalize hcd : code % segP m.vars k = cd at *
      generalize segP m.vars k = sg0 at *
      obtain ⟨sg, hsge⟩ : ∃ sg, segP m.vars (k + 1) = sg := ⟨_, rfl⟩
      have HSG : Hid (segP m.vars (k + 1) = sg) := hsge
      rw [hsge] at hsg hbvk HQ HVa
      generalize m.vars.getD k vr0 = x at *
      obtain ⟨s, lo, hi', ini⟩ := x
      simp only [vspan] at c0 c1 c2 c3 HVa hvb
      obtain ⟨hv1, hv2, hv3, hv4, hv5, hv6, hv7⟩ := hvb
      clear hat hsge hcd
      have hi0 : (0 : Int) ≤ (k : Int) := Int.natCast_nonneg _
      have hi1 : (k : Int) < (n : Int) := by omega
      have hsz0 : ¬ sg = 0 := by omega
      have hsz1 : (sg == 0) = false := by rw [beq_eq_false_iff_ne]; omega
      have ht : cd.tmod sg = cd % sg := Int.tmod_eq_emod_of_nonneg hcd0
      have htd : cd.tdiv sg = cd / sg := Int.tdiv_eq_ediv_of_nonneg hcd0
      have hd0 := Int.ediv_nonneg hcd0 (show 0 ≤ sg by omega)
      have hd1 := Int.ediv_le_self sg hcd0
      have hw0 : IntKind.i64.wrap (cd / sg) = cd / sg := wr64 (by omega) (by omega)
      have hw1 : IntKind.i64.wrap (lo + cd / sg) = lo + cd / sg := wr64 (by omega) (by omega)
      have hbo : b < wr.heap.size := by omega
      have hown := HOwn.out
      go_wp2_with (go_at_call 45; refine hbvk.mono ?_; rintro e w3 ⟨rfl, hb3⟩)
      have hown3 : ∀ o, (w3.alloc o).ownsRow (w.heap.size + 1) 3 1 _ k _ := fun o => (owns_later hown hb3 (Nat.le_refl _)).alloc o
      have hnb := hown.lt
      generalize hxs : ivals ((List.range k).map (valAt m.vars code)) = xs at *
      have HXS : Hid (ivals ((List.range k).map (valAt m.vars code)) = xs) := hxs
      have hs3 : w.heap.size < w3.heap.size := Nat.lt_of_lt_of_le hlb hb3.size
      have hS0 : ∀ w', Below wr.heap.size wr w' → w'.cell? ⟨w.heap.size, 0, none⟩ = some (.slice (some ⟨b, off, none⟩) n cap) ∧ w'.cell? ⟨b, off + k * 4 + 1, none⟩ = some (.int .i64 lo) := fun w' hw' =>
        ⟨(hw'.cell (p := ⟨w.heap.size, 0, none⟩) hlb).trans cb, (hw'.cell (p := ⟨b, off + k * 4 + 1, none⟩) hbo).trans c1⟩
      have hSA : ∀ o, (w3.alloc o).cell? ⟨w.heap.size, 0, none⟩ = some (.slice (some ⟨b, off, none⟩) n cap) ∧ (w3.alloc o).cell? ⟨b, off + k * 4 + 1, none⟩ = some (.int .i64 lo) := fun o => hS0 _ (hb3.alloc hb3.size o)
      have hkb : (k + 1) * 8 ≤ 140737488355328 := by omega
      have h63 : k + 1 ≤ maxLen := by unfold maxLen; omega
      have hbase : ∀ o, w.heap.size + 1 ≤ (w3.alloc o).heap.size := fun o => by simp; omega
      clear hxs hown hbvk HOwn cb cb1 c0 c1 c2 c3
      go_region_held3 (fun w' => w'.cell? ⟨w.heap.size, 0, none⟩ = some (.slice (some ⟨b, off, none⟩) n cap) ∧ w'.cell? ⟨b, off + k * 4 + 1, none⟩ = some (.int .i64 lo))
        (first | exact hS0 _ hb3 | exact hS0 _ hb3.drew | exact hSA _ | exact hk4)
        (first
          | (refine step_append_lies _ (by rfl) (.tmp 34) (.tmp 45) 54 (by rfl) (w.heap.size + 1) 3 i0 _ 1 8 Tryd.underlying54 hi hz0 hz1 hz2 (by rfl) (by decide) _ k xs (by rfl) (hown3 _) ⟨w3.heap.size, 0, none⟩ 1 1 [.int .i64 (lo + cd / sg)] (by rfl) (by rfl) (cell_one_new _ _ _) (by intro u hu; simp at hu; subst hu; rfl) (by decide) h63 hkb (hbase _) (w3.heap.size + 1) (by simp) ?_; intro g cp w4 ho4 hg4 hat4 hl4; have hk4 : w4.cell? ⟨w.heap.size, 0, none⟩ = some (.slice (some ⟨b, off, none⟩) n cap) ∧ w4.cell? ⟨b, off + k * 4 + 1, none⟩ = some (.int .i64 lo) := ⟨(hg4.cell_far ⟨w.heap.size, 0, none⟩ (by simp; omega) (fun he => by have := (hnb _ he.symm).1; simp only at this; omega)).trans (hSA _).1, (hg4.cell_far ⟨b, off + k * 4 + 1, none⟩ (by simp; omega) (fun he => by have := (hnb _ he.symm).1; simp only at this; omega)).trans (hSA _).2⟩))
      have hbk : Below (w.heap.size + 1) (w.alloc (.cells #[.slice (some ⟨b, off, none⟩) n cap, .slice ro rn rc] 25)) w4 := by
        have h3 := hbelB.trans (hb3.mono hszb)
        first
          | exact Below.grown (Below.alloc h3.drew (by simp; omega) _) hg4 (by simp; omega) (fun q hq => (hnb q hq).1)
          | exact Below.grown (Below.alloc h3 (by omega) _) hg4 (by simp; omega) (fun q hq => (hnb q hq).1)
      have HO4 : Hid (w4.ownsRow (w.heap.size + 1) 3 1 (.slice (some ⟨g, 0, none⟩) (k + 1) cp) (k + 1) (ivals ((List.range (k + 1)).map (valAt m.vars code)))) := by
        show World.ownsRow _ _ _ _ _ _ _
        rw [HSn.out, ← HVa.out]
        exact ho4
      clear ho4 hg4 hown3 hk4
      go_wp2_with fail
      go_roundw
      case rel => exact ⟨k + 1, hlt, by go_num, by rw [HSG.out, ← HQ.out], HO4, hbk⟩
      case measure => simp [intOf]; omega
    · have hkn : k = n := by omega
      subst hkn
      have hown := HOwn.out
      obtain ⟨vo, vc, rfl⟩ := owns_slice hown
      have hI : IntsV wr (.slice vo k vc) (valsL m.vars code) := by
        rw [HL.out]
        exact intsV_of_owns (by simpa using hown)
      have HI := (show Hid _ from hI)
      clear hI hown
      go_wp2
      go_ret2
      exact ⟨_, rfl, hbel, HI.out⟩
/-- THE CONTRACT OF ValuesOf. -/
theorem rvalues_any (va vr : Value) (m : Mo) (code : Int) (w : World) (hV : ModelV w va vr m) :
    Calls Tryd.prog 27 #[.agg #[va, vr], .int .i64 code] w fun e w' => ∃ v, e = .returned (.tuple #[v, .int .i64 (wcode m code)]) ∧ Below w.heap.size w w' ∧ IntsV w' v (wvals m code) := by
  by_cases h : mcode m = 0
  · by_cases hc : 0 ≤ code ∧ code < prodTo m.vars m.vars.length
    · have h0 := wcode_yes h hc
      unfold wvals
      rw [h0, if_pos rfl]
      exact rvalues_loop va vr m code w hV h hc
    · have h0 := wcode_no h hc
      unfold wvals
      rw [h0, if_neg (by decide)]
      exact (rvalues_no va vr m code w hV h hc).mono fun e w' ⟨he, hb⟩ => ⟨_, he, hb, none, 0, rfl, fun h => absurd rfl h⟩
  · have h0 := wcode_bad (code := code) h
    unfold wvals
    rw [h0, if_neg h]
    exact (rvalues_bad va vr m code w hV h).mono fun e w' ⟨he, hb⟩ => ⟨_, he, hb, none, 0, rfl, fun h => absurd rfl h⟩
end Go.Proofs.YtdlpmomohbdpgaaDoor

/-
  The contract of the document's own AfterRule.
-/
namespace Go.Proofs.YtdlpmomohbdpgaaDoor
open Go.ChangeShapes Go.WideShapes Go.ChangeAt Go.RowKit Go.Deep
open Terms Tm

/-- THE CONTRACT OF Evaluated, in the step's words. -/
theorem rex_any (v ev : Value) (l : List (Int × Int)) (env : List Int) (w : World) (hV : OpsV w v l) (hE : IntsV w ev env) :
    Calls Tryd.prog 28 #[v, ev] w fun e w' => e = .returned (.tuple #[.int .i64 (exN l env), .int .i64 (exC l env)]) ∧ Below w.heap.size w w' :=
  evaluated_any v ev l env (treeOf l) w hV hE (treeOf_spec l)
theorem behindL_eq {env : List Int} {r : Ru} (h : ∀ j, j < r.sets.length → 0 ≤ (r.sets.getD j st0).var ∧ (r.sets.getD j st0).var < env.length) : (List.range env.length).map (fun i => setAt env r.sets i r.sets.length) = behindL env r := by
  apply List.ext_getElem?
  intro i
  by_cases hi : i < env.length
  · have h1 := setTo_at (k := r.sets.length) h i
    rw [List.getElem?_map, List.getElem?_range hi]
    have h2 : i < (behindL env r).length := by unfold behindL; rw [setTo_length]; exact hi
    rw [List.getElem?_eq_getElem h2]
    show some (setAt env r.sets i r.sets.length) = _
    rw [← h1]
    unfold behindL at h2 ⊢
    simp [List.getD_eq_getElem?_getD, h2]
  · simp [hi, behindL, setTo_length]

end Go.Proofs.YtdlpmomohbdpgaaDoor

/-
  The contract of the document's own LetterOf.
-/
namespace Go.Proofs.YtdlpmomohbdpgaaDoor
open Go.ChangeShapes Go.WideShapes Go.ChangeAt Go.RowKit Go.Deep
open Terms Tm

set_option maxHeartbeats 3200000 in
set_option maxRecDepth 20000 in
/-- THE CONTRACT OF LetterOf. -/
theorem rletter_any (va vr pv : Value) (m : Mo) (ps : List (List (Int × Int))) (code : Int) (w : World) (hlz : ps.length * 24 ≤ 140737488355328) (hV : ModelV w va vr m) (hP : TermsV w pv ps) :
    Calls Tryd.prog 15 #[.agg #[va, vr], pv, .int .i64 code] w fun e w' => ∃ v, e = .returned (.tuple #[v, .int .i64 (letC m ps code)]) ∧ Below w.heap.size w w' ∧ BoolsV w' v (letL m ps code) := by
  have hA : ∀ o, Below w.heap.size w (w.alloc o) := fun o => (Below.refl _ _).alloc (Nat.le_refl _) o
  have hpr := fun o => rprops_any va vr pv m ps (w.alloc o) hlz (hV.below (hA o)) (hP.below (hA o))
  have hvl := fun w' (hb : Below w.heap.size w w') => rvalues_any va vr m code w' (hV.below hb)
  obtain ⟨ao, cap, rfl⟩ := hV.1.shape
  obtain ⟨ro, rc, rfl⟩ := hV.2.shape
  obtain ⟨po, pc, rfl, hPa⟩ := hP
  by_cases hp : pcode m ps = 0
  · obtain ⟨hm, hp6⟩ := pcode_m hp
    rw [hp] at hpr
    by_cases hw : wcode m code = 0
    · have hlc : letC m ps code = 0 := by unfold letC; rw [if_pos hp, hw]
      have hll : letL m ps code = ps.map (fun p => holdsB p (valsL m.vars code)) := by unfold letL; rw [if_pos hlc]
      rw [hlc, hll]
      rw [hw, show wvals m code = valsL m.vars code by unfold wvals; rw [if_pos hw]] at hvl
      generalize valsL m.vars code = env at hvl ⊢
      have HEx : Hid (∀ w' v ev l, OpsV w' v l → IntsV w' ev env → Calls Tryd.prog 28 #[v, ev] w' fun e w2 => e = .returned (.tuple #[.int .i64 (exN l env), .int .i64 (exC l env)]) ∧ Below w'.heap.size w' w2) := fun w' v ev l h1 h2 => rex_any v ev l env w' h1 h2
      have HP : Hid (ps ≠ [] → ∃ b off, po = some ⟨b, off, none⟩ ∧ b < w.heap.size ∧ ∀ i, i < ps.length → ∃ u, w.cell? ⟨b, off + i, none⟩ = some u ∧ OpsV w u (ps.getD i [])) := hPa
      have HML : Hid (∀ k, k < ps.length → bvals ((ps.take (k + 1)).map (fun p => holdsB p env)) = bvals ((ps.take k).map (fun p => holdsB p env)) ++ [.bool (decide (exC (ps.getD k []) env = 0) && decide (exN (ps.getD k []) env = 1))]) := fun k hk => by
        rw [List.take_succ_eq_append_getElem hk, show ps[k] = ps.getD k [] by simp [List.getD_eq_getElem?_getD, hk]]
        unfold bvals
        rw [List.map_append, List.map_append]
        rfl
      obtain ⟨pn, hpn⟩ : ∃ pn, pn = ps.length := ⟨_, rfl⟩
      have HPN : Hid (pn = ps.length) := hpn
      rw [← hpn] at hpr hp6 HP HML ⊢
      generalize m.vars.length = n at *
      generalize m.rules.length = rn at *
      obtain ⟨i0, hi, hz0, hz1, hz2⟩ := info_parts infoBool
      clear hV hlc hll hPa hpn hw hm hp hlz
      go_enter Tryd.func15, Tryd.ntmps15
      go_wp2_with (first | (go_at_call 24; refine (hpr _).mono ?_; rintro e w1 ⟨rfl, hb1⟩; have hbw1 := (hA _).trans (hb1.mono (hA _).size); have k10 : w1.cell? ⟨w.heap.size, 0, none⟩ = some (.slice ao n cap) := (hb1.cell (p := ⟨w.heap.size, 0, none⟩) (by simp)).trans (by simp [go_sem]); have k11 : w1.cell? ⟨w.heap.size, 1, none⟩ = some (.slice ro rn rc) := (hb1.cell (p := ⟨w.heap.size, 1, none⟩) (by simp)).trans (by simp [go_sem])) | (go_at_call 27; refine (hvl _ hbw1).mono ?_; rintro e w3 ⟨v, rfl, hb3, hI3⟩; obtain ⟨vo, vc, rfl⟩ := hI3.shape))
      have hbw3 := hbw1.trans (hb3.mono hbw1.size)
      have HI3 : Hid (IntsV w3 (.slice vo env.length vc) env) := hI3
      have HB3 : Hid (Below w.heap.size w w3) := hbw3
      clear hpr hvl hb1 hbw1 k10 k11 hb3 hI3 hbw3
      go_loopw [10, 11] (fun out i wr => ∃ k : Nat, k ≤ pn ∧ i = .int .i64 k ∧ Hid (wr.ownsRow w3.heap.size 4 1 out k (bvals ((ps.take k).map (fun p => holdsB p env)))) ∧ Hid (Below w3.heap.size w3 wr)) (fun _ i _ => pn - (intOf i).toNat)
      case atStart => exact ⟨0, Nat.zero_le _, rfl, World.ownsRow_nil _ _ _ _, Below.refl _ _⟩
      case round =>
        obtain ⟨k, hk, rfl, HOwn, HBel⟩ := hrel
        have hbel := HBel.out
        have hbw := HB3.out.trans (hbel.mono HB3.out.size)
        by_cases hlt : k < pn
        · obtain ⟨b, off, rfl, hblt, hat⟩ := HP.out (by intro h; have := HPN.out; subst h; simp at this; omega)
          obtain ⟨u, hu, hou⟩ := hat k hlt
          have c0 := (hbel.cell (p := ⟨b, off + k, none⟩) (Nat.lt_of_lt_of_le hblt HB3.out.size)).trans ((HB3.out.cell (p := ⟨b, off + k, none⟩) hblt).trans hu)
          obtain ⟨uo, uc, rfl⟩ := hou.shape
          have hex := HEx.out wr _ _ _ (hou.below hbw) (HI3.out.below hbel)
          have HLk := (show Hid _ from HML.out k hlt)
          generalize exN (ps.getD k []) env = N at hex HLk
          generalize exC (ps.getD k []) env = C at hex HLk
          generalize (ps.getD k []).length = ul at *
          have hown := HOwn.out
          have hnb := hown.lt
          obtain ⟨oo, oc, rfl⟩ := owns_slice hown
          have h63 : k + 1 ≤ maxLen := by unfold maxLen; omega
          have hkb : (k + 1) * 1 ≤ 140737488355328 := by omega
          clear hat hu hou HEx HP HML
          by_cases hC : C = 0
          · have HEl : Hid (bvals ((ps.take (k + 1)).map (fun p => holdsB p env)) = bvals ((ps.take k).map (fun p => holdsB p env)) ++ [.bool (N == 1)]) := by
              show _ = _
              rw [HLk.out, hC]
              rfl
            subst hC
            clear HLk
            go_wp2_with (first | (go_at_call 28; refine hex.mono ?_; rintro e w4 ⟨rfl, hb4⟩; have hb34 := hbel.trans (hb4.mono hbel.size); have hown3 := fun o => (owns_later hown hb4 (Nat.le_refl _)).alloc o; have hbase : ∀ o, w3.heap.size ≤ (w4.alloc o).heap.size := (fun o => by have := hb34.size; simp; omega)) | (at_builtin; refine wpList_append_own _ rfl (.tmp 44) (.tmp 51) 47 rfl w3.heap.size 4 i0 (.bool false) 1 1 Tryd.underlying47 hi hz0 hz1 hz2 rfl (by decide) _ k _ rfl (hown3 _) ⟨w4.heap.size, 0, none⟩ 1 1 [.bool (N == 1)] rfl rfl (cell_one_new _ _ _) (by intro u hu; simp at hu; subst hu; rfl) h63 hkb (hbase _) ?_; intro v' w5 hown' hgrow _))
            have hb5 : Below w3.heap.size w3 w5 := (hb34.alloc hb34.size _).grown hgrow (hbase _) (fun z hz => (hnb z hz).1)
            have HO5 : Hid (w5.ownsRow w3.heap.size 4 1 v' (k + 1) (bvals ((ps.take (k + 1)).map (fun p => holdsB p env)))) := by
              show World.ownsRow _ _ _ _ _ _ _
              rw [HEl.out]
              exact hown'
            clear hown' hgrow hown3
            exact ⟨⟨k + 1, hlt, by first | rfl | simp, HO5.out, hb5⟩, by simp [intOf]; omega⟩
          · have HEl : Hid (bvals ((ps.take (k + 1)).map (fun p => holdsB p env)) = bvals ((ps.take k).map (fun p => holdsB p env)) ++ [.bool false]) := by
              show _ = _
              rw [HLk.out, decide_eq_false hC]
              rfl
            clear HLk
            go_wp2_with (first | (go_at_call 28; refine hex.mono ?_; rintro e w4 ⟨rfl, hb4⟩; have hb34 := hbel.trans (hb4.mono hbel.size); have hown3 := fun o => (owns_later hown hb4 (Nat.le_refl _)).alloc o; have hbase : ∀ o, w3.heap.size ≤ (w4.alloc o).heap.size := (fun o => by have := hb34.size; simp; omega)) | (at_builtin; refine wpList_append_own _ rfl (.tmp 44) (.tmp 51) 47 rfl w3.heap.size 4 i0 (.bool false) 1 1 Tryd.underlying47 hi hz0 hz1 hz2 rfl (by decide) _ k _ rfl (hown3 _) ⟨w4.heap.size, 0, none⟩ 1 1 [.bool false] rfl rfl (cell_one_new _ _ _) (by intro u hu; simp at hu; subst hu; rfl) h63 hkb (hbase _) ?_; intro v' w5 hown' hgrow _))
            have hb5 : Below w3.heap.size w3 w5 := (hb34.alloc hb34.size _).grown hgrow (hbase _) (fun z hz => (hnb z hz).1)
            have HO5 : Hid (w5.ownsRow w3.heap.size 4 1 v' (k + 1) (bvals ((ps.take (k + 1)).map (fun p => holdsB p env)))) := by
              show World.ownsRow _ _ _ _ _ _ _
              rw [HEl.out]
              exact hown'
            clear hown' hgrow hown3
            exact ⟨⟨k + 1, hlt, by first | rfl | simp, HO5.out, hb5⟩, by simp [intOf]; omega⟩
        · have hkn : k = pn := by omega
          subst hkn
          have hown := HOwn.out
          rw [List.take_of_length_le (by rw [← HPN.out]; omega)] at hown
          obtain ⟨oo, oc, rfl⟩ := owns_slice hown
          have hbo : BoolsV wr (.slice oo k oc) (ps.map (fun p => holdsB p env)) := boolsV_of_owns (by rw [show (ps.map (fun p => holdsB p env)).length = k by simp [HPN.out]]; exact hown)
          have HBO := (show Hid _ from hbo)
          clear hown hbo
          go_wp2_with fail
          go_ret2
          exact ⟨_, rfl, hbw, HBO.out⟩
    · have hlc : letC m ps code = wcode m code := by unfold letC; rw [if_pos hp]
      have hll : letL m ps code = [] := by unfold letL; rw [if_neg (by rw [hlc]; exact hw)]
      rw [hlc, hll]
      generalize wcode m code = c at *
      generalize wvals m code = vs at *
      generalize m.vars.length = n at *
      generalize m.rules.length = rn at *
      generalize ps.length = pn at *
      clear hV hlc hll hPa
      go_enter Tryd.func15, Tryd.ntmps15
      go_wp2_with (first | (go_at_call 24; refine (hpr _).mono ?_; rintro e w1 ⟨rfl, hb1⟩; have hbw1 := (hA _).trans (hb1.mono (hA _).size); have k10 : w1.cell? ⟨w.heap.size, 0, none⟩ = some (.slice ao n cap) := (hb1.cell (p := ⟨w.heap.size, 0, none⟩) (by simp)).trans (by simp [go_sem]); have k11 : w1.cell? ⟨w.heap.size, 1, none⟩ = some (.slice ro rn rc) := (hb1.cell (p := ⟨w.heap.size, 1, none⟩) (by simp)).trans (by simp [go_sem])) | (go_at_call 27; refine (hvl _ hbw1).mono ?_; rintro e w3 ⟨v, rfl, hb3, _⟩))
      go_ret2
      exact ⟨_, rfl, hbw1.trans (hb3.mono hbw1.size), none, 0, rfl, fun h => absurd rfl h⟩
  · have hlc : letC m ps code = pcode m ps := by unfold letC; rw [if_neg hp]
    have hll : letL m ps code = [] := by unfold letL; rw [if_neg (by rw [hlc]; exact hp)]
    rw [hlc, hll]
    generalize pcode m ps = c at *
    generalize m.vars.length = n at *
    generalize m.rules.length = rn at *
    generalize ps.length = pn at *
    clear hV hlc hll hPa
    go_enter Tryd.func15, Tryd.ntmps15
    go_wp2_with (go_at_call 24; refine (hpr _).mono ?_; rintro e w1 ⟨rfl, hb1⟩)
    go_ret2
    exact ⟨_, rfl, (hA _).trans (hb1.mono (hA _).size), none, 0, rfl, fun h => absurd rfl h⟩
end Go.Proofs.YtdlpmomohbdpgaaDoor

/-
  The contracts of the document's own secondAt, truthAt and TruthsOf.
-/
namespace Go.Proofs.YtdlpmomohbdpgaaDoor
open Go.ChangeShapes Go.WideShapes Go.ChangeAt Go.RowKit Go.Deep
open Terms

theorem rsec_any (b off cap p : Nat) (l : List (Int × Int)) (w : World) (h60 : l.length ≤ 60) (hz : endsCode (l.map Prod.fst) = 0) (hp : p < l.length) (h2 : pn (l.getD p (0, 0)).1 = 2) (hat : OpsAt w b off l) :
    Calls Tryd.prog 49 #[.slice (some ⟨b, off, none⟩) l.length cap, .int .i64 (p : Int)] w fun e w' => e = .returned (.int .i64 (sec l p : Int)) ∧ w' = w := by
  obtain ⟨h1, hs⟩ := part_in hz hp
  have hp1 := h1 (by omega)
  obtain ⟨_, hc⟩ := code_zero hz
  rw [List.length_map] at hc
  obtain ⟨m, hm, hm1, hml⟩ := cnt_in (l.map Prod.fst) 1 l.length (p + 1) hc hp1
  have hks : KindsAt w b off (l.map Prod.fst) := fun i hi => by
    rw [List.length_map] at hi
    rw [(hat i hi).1]
    simp [List.getD_eq_getElem?_getD, hi]
  have hen := endOf_any b off l.length cap (p + 1) (l.map Prod.fst) w h60 (by rw [List.length_map]) (by omega) hks
  have hsec : sec l p = p + 1 + m := by unfold sec; exact endAt_ok hm
  rw [hm] at hen
  rw [hsec]
  have hpc : ((p + 1 : Nat) : Int) = (p : Int) + 1 := by omega
  simp only [endOfVal] at hen
  rw [hpc] at hen
  generalize ((p + 1 + m : Nat) : Int) = z at *
  generalize l.length = n at *
  clear hat hks hc hm hs h1 h2 hsec hpc
  go_enter Tryd.func49, Tryd.ntmps49
  go_wp2_with (go_at_call 64; refine hen.mono ?_; rintro e w1 ⟨rfl, rfl⟩)
  go_ret
  exact ⟨rfl, rfl⟩

theorem kind_ok {l : List (Int × Int)} (hz : endsCode (l.map Prod.fst) = 0) {p : Nat} (hp : p < l.length) : 1 ≤ (l.getD p (0, 0)).1 ∧ (l.getD p (0, 0)).1 ≤ 18 := by
  obtain ⟨_, hc⟩ := code_zero hz
  rw [List.length_map] at hc
  obtain ⟨m, hm, _, _⟩ := cnt_in (l.map Prod.fst) 1 l.length p hc hp
  have ha := cnt_at (ks := l.map Prod.fst) (q := p) (by rw [List.length_map]; exact hp)
  rw [hm] at ha
  have hget : (l.map Prod.fst).getD p 0 = (l.getD p (0, 0)).1 := by simp [List.getD_eq_getElem?_getD, hp]
  rw [hget] at ha
  split at ha
  · rename_i hk; simpa [okK] using hk
  · simp at ha

/-- what truthAt stands on. -/
structure TruIn (w : World) (v lv av : Value) (l : List (Int × Int)) (letter : List Bool) : Prop where
  ops : OpsV w v l
  letter : BoolsV w lv letter
  ahead : IntsV w av (aheadL l)
theorem TruIn.below {w w' : World} {v lv av : Value} {l : List (Int × Int)} {letter : List Bool} (h : TruIn w v lv av l letter) (hb : Below w.heap.size w w') : TruIn w' v lv av l letter := ⟨h.ops.below hb, h.letter.below hb, h.ahead.below hb⟩

set_option maxHeartbeats 1600000 in
set_option maxRecDepth 20000 in
theorem truthAt_look (b off n cap : Nat) (lo : Option Addr) (ln lc : Nat) (aao : Option Addr) (an ac : Nat) (kx : Int) (hk : 14 ≤ kx ∧ kx ≤ 18) (p : Nat) (hpn : p < n) (l : List (Int × Int)) (claim : Int) (w : World) (h0 : 0 ≤ claim) (h64 : claim < 64) (han : an ≤ 6)
    (c0 : w.cell? ⟨b, off + p * 2, none⟩ = some (.int .i64 kx)) (hA : an = (aheadL l).length) (hav : IntsV w (.slice aao an ac) (aheadL l)) (hpl : p < l.length) (hlk : lookB (l.getD p (0, 0)).1 = true) :
    Calls Tryd.prog 31 #[.slice (some ⟨b, off, none⟩) n cap, .int .i64 (p : Int), .slice lo ln lc, .slice aao an ac, .int .i64 claim] w fun e w' => e = .returned (.bool (bitB claim (aheadTo l p).length)) ∧ Below w.heap.size w w' := by
  have hlt := aheadTo_lt l hpl hlk
  obtain ⟨ao', ac', hsl, hai⟩ := hav
  injection hsl with e1 e2 e3
  subst e1
  obtain ⟨ab, aoff, rfl, habl, haat⟩ := hai (by intro h; rw [show aheadTo l l.length = aheadL l from rfl, h] at hlt; simp at hlt)
  have HG : Hid (∀ k, k < an → ∃ q : Nat, w.cell? ⟨ab, aoff + k, none⟩ = some (.int .i64 (q : Int)) ∧ (q = p ↔ k = (aheadTo l p).length)) := fun k hk => by
    obtain ⟨q, h1, h2, h3, h4⟩ := aheadTo_get l l.length k (by unfold aheadL at hA; omega)
    refine ⟨q, by rw [haat k (by omega)]; exact congrArg (fun z => some (Value.int .i64 z)) h1, fun e => by rw [← e]; exact h4.symm, fun e => ?_⟩
    rcases Nat.lt_trichotomy q p with h | h | h
    · have := aheadTo_lt l h h3; omega
    · exact h
    · have := aheadTo_lt l h hlk; omega
  have hia : (aheadTo l p).length < an := by unfold aheadL at hA; omega
  generalize (aheadTo l p).length = ix at *
  have e13 : ¬ kx = 13 := by omega
  have e11 : ¬ kx = 11 := by omega
  have e12 : ¬ kx = 12 := by omega
  have e10 : ¬ kx = 10 := by omega
  have e8 : ¬ kx = 8 := by omega
  have e9 : ¬ kx = 9 := by omega
  clear hk hai haat hlk hpl hlt hA e2 e3
  go_enter Tryd.func31, Tryd.ntmps31
  go_wp2_with fail
  go_loop [4, 13] (fun c i => ∃ k : Nat, k ≤ ix ∧ i = .int .i64 (k : Int) ∧ c = .int .i64 (claim / 2 ^ k)) (fun _ i => an - (intOf i).toNat)
  case atStart => exact ⟨0, Nat.zero_le _, rfl, by simp⟩
  case round =>
    obtain ⟨k, hk, rfl, rfl⟩ := hrel
    obtain ⟨q, hq, hqi⟩ := HG.out k (by omega)
    have h2 : (0 : Int) < 2 ^ k := Int.pow_pos (by decide)
    have h3 : 0 ≤ claim / 2 ^ k := Int.ediv_nonneg h0 (Int.le_of_lt h2)
    have h4 : claim / 2 ^ k < 64 := Int.lt_of_le_of_lt (Int.ediv_le_self _ h0) h64
    have HD : Hid (claim / 2 ^ (k + 1) = claim / 2 ^ k / 2) := by show _ = _; rw [Int.pow_succ]; first | exact (Int.ediv_ediv (Int.le_of_lt h2)).symm | exact (Int.ediv_ediv_of_nonneg (Int.le_of_lt h2)).symm | exact (Int.ediv_ediv_eq (Int.le_of_lt h2)).symm
    have HB : Hid (bitB claim k = decide (claim / 2 ^ k % 2 = 1)) := rfl
    generalize claim / 2 ^ k = cl at *
    have hka : k < an := by omega
    clear h2
    by_cases hqp : q = p
    · have hki := hqi.1 hqp
      have HKI : Hid (k = ix) := hki
      subst hqp
      clear hki hqi HG
      go_wp2_with fail
      go_ret
      rw [← HKI.out, HB.out]
      exact ⟨rfl, Below.refl _ _⟩
    · have hki : k ≠ ix := fun e => hqp (hqi.2 e)
      have hne : ¬ (q : Int) = p := by omega
      have hlt' : k < ix := by omega
      clear hki hqi HG hqp
      go_wp2_with fail
      exact ⟨⟨k + 1, hlt', by first | rfl | simp, by rw [HD.out]⟩, by simp [intOf]; omega⟩

set_option maxHeartbeats 1600000 in
set_option maxRecDepth 20000 in
/-- THE CONTRACT OF the document's truthAt. -/
theorem truthAt_any (l : List (Int × Int)) (letter : List Bool) (claim : Int) (hc : lcode letter.length l = 0) (h0 : 0 ≤ claim) (h64 : claim < 64) : ∀ (m p : Nat) (w : World) (v lv av : Value), l.length ≤ m + p → p < l.length → TruIn w v lv av l letter →
    Calls Tryd.prog 31 #[v, .int .i64 (p : Int), lv, av, .int .i64 claim] w fun e w' => e = .returned (.bool (tru l letter claim p)) ∧ Below w.heap.size w w' := by
  obtain ⟨hp0, hp6, hz, hlf, h6⟩ := lcode_zero hc
  obtain ⟨hne, h60⟩ := ends_ne hz
  rw [List.length_map] at h60
  intro m
  induction m with
  | zero => intro p w v lv av hm hp; omega
  | succ m ih =>
    intro p w v lv av hm hp hI
    obtain ⟨ao, cap, rfl, _, hv⟩ := id hI.ops
    obtain ⟨b, off, rfl, hbl, hat⟩ := hv (by rintro rfl; exact hne rfl)
    obtain ⟨lo, lc, rfl, hl⟩ := id hI.letter
    obtain ⟨aao, ac, rfl, ha⟩ := id hI.ahead
    obtain ⟨c0, c1⟩ := hat p hp
    have hop := lfirst_all hlf p hp
    have hko := kind_ok hz hp
    obtain ⟨hq1, hq2⟩ := part_in hz hp
    cases hb : lookB (l.getD p (0, 0)).1 with
    | true =>
      rw [tru_look hp hb]
      have hk : 14 ≤ (l.getD p (0, 0)).1 ∧ (l.getD p (0, 0)).1 ≤ 18 := by simpa [lookB] using hb
      exact truthAt_look b off l.length cap lo _ lc aao _ ac _ hk p hp l claim w h0 h64 h6 c0 rfl hI.ahead hp hb
    | false =>
      have HE : Hid (tru l letter claim p = mkB (l.getD p (0, 0)) letter (tru l letter claim (p + 1)) (tru l letter claim (sec l p))) := tru_mk hp hb (fun h => (hq2 h).1)
      have hsc := rsec_any b off cap p l
      have ihp : p + 1 < l.length → ∀ w', Below w.heap.size w w' → Calls Tryd.prog 31 #[.slice (some ⟨b, off, none⟩) l.length cap, .int .i64 ((p : Int) + 1), .slice lo letter.length lc, .slice aao (aheadL l).length ac, .int .i64 claim] w' fun e w2 => e = .returned (.bool (tru l letter claim (p + 1))) ∧ Below w'.heap.size w' w2 := fun h w' hb' => by
        have := ih (p + 1) w' _ _ _ (by omega) h (hI.below hb')
        rw [show ((p + 1 : Nat) : Int) = (p : Int) + 1 by omega] at this
        exact this
      have ihs : pn (l.getD p (0, 0)).1 = 2 → ∀ w', Below w.heap.size w w' → Calls Tryd.prog 31 #[.slice (some ⟨b, off, none⟩) l.length cap, .int .i64 (sec l p : Int), .slice lo letter.length lc, .slice aao (aheadL l).length ac, .int .i64 claim] w' fun e w2 => e = .returned (.bool (tru l letter claim (sec l p))) ∧ Below w'.heap.size w' w2 := fun h w' hb' => ih (sec l p) w' _ _ _ (by have := (hq2 h).1; omega) (hq2 h).2 (hI.below hb')
      have hss : pn (l.getD p (0, 0)).1 = 2 → ∀ w', Below w.heap.size w w' → Calls Tryd.prog 49 #[.slice (some ⟨b, off, none⟩) l.length cap, .int .i64 (p : Int)] w' fun e w2 => e = .returned (.int .i64 (sec l p : Int)) ∧ w2 = w' := fun h w' hb' => rsec_any b off cap p l w' h60 hz hp h (hat.below hb' hbl)
      generalize tru l letter claim (p + 1) = ta at *
      generalize tru l letter claim (sec l p) = tb at *
      generalize tru l letter claim p = tp at *
      generalize l.getD p (0, 0) = xy at *
      obtain ⟨kx, vx⟩ := xy
      simp only at c0 c1 hb hop hq1 hq2 ihs hss hko
      have hk8 : 8 ≤ kx := by
        simp only [lopErr] at hop
        split at hop
        · omega
        · omega
      generalize (sec l p : Int) = sp at *
      rw [HE.out]
      have hlf13 : kx = 13 → 0 ≤ vx ∧ vx < letter.length := fun e => by
        simp only [lopErr] at hop
        rw [if_neg (by omega), if_pos e] at hop
        split at hop
        · omega
        · omega
      generalize (aheadL l).length = an at *
      clear hv ha hop hI hsc ih HE
      by_cases e13 : kx = 13
      · subst e13
        obtain ⟨hv0, hv1⟩ := hlf13 rfl
        obtain ⟨vn, rfl⟩ : ∃ vn : Nat, vx = vn := ⟨vx.toNat, by omega⟩
        obtain ⟨lb, loff, rfl, hlbl, hlat⟩ := hl (by intro h; rw [h] at hv1; simp at hv1; omega)
        have hcl := hlat vn (by omega)
        rw [show mkB (13, (vn : Int)) letter ta tb = letter.getD vn false by simp [mkB]]
        generalize letter.getD vn false = x at *
        generalize letter.length = ln at *
        generalize l.length = n at *
        have hvl : vn < ln := by omega
        clear hlat hl hlf13 hv0 hv1 ihp ihs hss hq1 hq2
        go_enter Tryd.func31, Tryd.ntmps31
        go_wp2_with fail
        go_ret
        exact ⟨rfl, Below.refl _ _⟩
      · generalize hln : letter.length = ln at *
        generalize hnn : l.length = n at *
        clear hl hlf13 hat
        by_cases e11 : kx = 11
        · subst e11
          rw [show mkB (11, vx) letter ta tb = true by simp [mkB]]
          clear ihp ihs hss hq1 hq2
          go_enter Tryd.func31, Tryd.ntmps31
          go_wp2_with fail
          go_ret
          exact ⟨rfl, Below.refl _ _⟩
        · by_cases e12 : kx = 12
          · subst e12
            rw [show mkB (12, vx) letter ta tb = false by simp [mkB]]
            clear ihp ihs hss hq1 hq2
            go_enter Tryd.func31, Tryd.ntmps31
            go_wp2_with fail
            go_ret
            exact ⟨rfl, Below.refl _ _⟩
          · by_cases e10 : kx = 10
            · subst e10
              rw [show mkB (10, vx) letter ta tb = !ta by simp [mkB]]
              have hc1 := ihp (hq1 (by decide)) w (Below.refl _ _)
              clear ihp ihs hss hq1 hq2
              go_enter Tryd.func31, Tryd.ntmps31
              go_wp2_with (go_at_call 31; refine hc1.mono ?_; rintro e w1 ⟨rfl, hb1⟩)
              go_ret
              exact ⟨rfl, hb1⟩
            · by_cases e89 : kx = 8 ∨ kx = 9
              · have hpn2 : pn kx = 2 := by rcases e89 with rfl | rfl <;> rfl
                have hc1 := ihp (hq1 (by omega)) w (Below.refl _ _)
                have hc2 := ihs hpn2
                have hc3 := hss hpn2
                have HM : Hid (mkB (kx, vx) letter ta tb = if kx = 8 then (ta && tb) else (ta || tb)) := by show _ = _; rcases e89 with rfl | rfl <;> simp [mkB]
                rw [HM.out]
                clear ihp ihs hss hq1 hq2 hpn2 HM
                rcases e89 with rfl | rfl
                · cases ta <;> cases tb
                  all_goals
                    go_enter Tryd.func31, Tryd.ntmps31
                    go_wp2_with (first | (go_at_call 49; refine (hc3 _ hb1).mono ?_; rintro e w2 ⟨rfl, hw2⟩; obtain rfl := hw2.symm) | (go_at_call 31; refine hc1.mono ?_; clear hc1; rintro e w1 ⟨rfl, hb1⟩; have hk1 := (hb1.cell (p := ⟨b, off + p * 2, none⟩) hbl).trans c0; have hc4 := hc2 _ hb1) | (go_at_call 31; refine hc4.mono ?_; clear hc4; rintro e w3 ⟨rfl, hb3⟩; have hb13 := hb1.trans (hb3.mono hb1.size); have hk3 := (hb13.cell (p := ⟨b, off + p * 2, none⟩) hbl).trans c0))
                    all_goals go_ret
                    all_goals exact ⟨by first | rfl | simp, hb13⟩
                · cases ta <;> cases tb
                  all_goals
                    go_enter Tryd.func31, Tryd.ntmps31
                    go_wp2_with (first | (go_at_call 49; refine (hc3 _ hb1).mono ?_; rintro e w2 ⟨rfl, hw2⟩; obtain rfl := hw2.symm) | (go_at_call 31; refine hc1.mono ?_; clear hc1; rintro e w1 ⟨rfl, hb1⟩; have hk1 := (hb1.cell (p := ⟨b, off + p * 2, none⟩) hbl).trans c0; have hc4 := hc2 _ hb1) | (go_at_call 31; refine hc4.mono ?_; clear hc4; rintro e w3 ⟨rfl, hb3⟩; have hb13 := hb1.trans (hb3.mono hb1.size); have hk3 := (hb13.cell (p := ⟨b, off + p * 2, none⟩) hbl).trans c0))
                    all_goals go_ret
                    all_goals exact ⟨by first | rfl | simp, hb13⟩
              · exfalso
                simp [lookB] at hb
                omega
end Go.Proofs.YtdlpmomohbdpgaaDoor

/-
  The contract of the document's own TruthsOf.
-/
namespace Go.Proofs.YtdlpmomohbdpgaaDoor
open Go.ChangeShapes Go.WideShapes Go.ChangeAt Go.RowKit Go.Deep
open Terms

def truTo (l : List (Int × Int)) (letter : List Bool) (claim : Int) (k : Nat) : List Bool := (List.range k).map (tru l letter claim)
theorem truTo_succ (l : List (Int × Int)) (letter : List Bool) (claim : Int) (k : Nat) : truTo l letter claim (k + 1) = truTo l letter claim k ++ [tru l letter claim k] := by simp [truTo, List.range_succ]
theorem truTo_length (l : List (Int × Int)) (letter : List Bool) (claim : Int) (k : Nat) : (truTo l letter claim k).length = k := by simp [truTo]

set_option maxHeartbeats 1600000 in
set_option maxRecDepth 20000 in
/-- THE CONTRACT OF the document's TruthsOf. -/
theorem rtruths_any (v lv : Value) (l : List (Int × Int)) (letter : List Bool) (claim : Int) (w : World) (hV : OpsV w v l) (hL : BoolsV w lv letter) :
    Calls Tryd.prog 17 #[v, lv, .int .i64 claim] w fun e w' => ∃ v', e = .returned (.tuple #[v', .int .i64 (tcode l letter claim)]) ∧ Below w.heap.size w w' ∧ BoolsV w' v' (truL l letter claim) := by
  have hah := aheadOf_any v l letter.length w hV
  obtain ⟨oo, oc, rfl, _⟩ := id hV
  obtain ⟨lo, lc, rfl, hl⟩ := id hL
  by_cases hc : lcode letter.length l = 0
  · obtain ⟨hp0, hp6, hz, hlf, h6⟩ := lcode_zero hc
    obtain ⟨hne, h60⟩ := ends_ne hz
    rw [List.length_map] at h60
    rw [hc] at hah
    have hal : ahL letter.length l = aheadL l := by unfold ahL; rw [if_pos hc]
    rw [hal] at hah
    have hsh : (2 : Int) ^ (aheadL l).length ≤ 64 := by
      have hcase : (aheadL l).length = 0 ∨ (aheadL l).length = 1 ∨ (aheadL l).length = 2 ∨ (aheadL l).length = 3 ∨ (aheadL l).length = 4 ∨ (aheadL l).length = 5 ∨ (aheadL l).length = 6 := by omega
      rcases hcase with h | h | h | h | h | h | h <;> rw [h] <;> decide
    have HTr : Hid (ClaimNo l claim → False) ∨ Hid (ClaimNo l claim) := by
      by_cases h : ClaimNo l claim
      · exact .inr h
      · exact .inl h
    have HTa : Hid (¬ ClaimNo l claim → ∀ p w' av, p < l.length → TruIn w' (.slice oo l.length oc) (.slice lo letter.length lc) av l letter → Calls Tryd.prog 31 #[.slice oo l.length oc, .int .i64 (p : Int), .slice lo letter.length lc, av, .int .i64 claim] w' fun e w2 => e = .returned (.bool (tru l letter claim p)) ∧ Below w'.heap.size w' w2) := fun hn p w' av hp hI => by
      unfold ClaimNo at hn
      exact truthAt_any l letter claim hc (by omega) (by omega) l.length p w' _ _ _ (by omega) hp hI
    have HCl : Hid (ClaimNo l claim ↔ (claim < 0 ∨ 2 ^ (aheadL l).length ≤ claim)) := Iff.rfl
    have HV : Hid (OpsV w (.slice oo l.length oc) l) := hV
    have HL : Hid (BoolsV w (.slice lo letter.length lc) letter) := hL
    have HTC : Hid (ClaimNo l claim → tcode l letter claim = 2 ∧ truL l letter claim = []) := fun h => ⟨tcode_no hc h, by unfold truL; rw [tcode_no hc h]; rfl⟩
    have HTO : Hid (¬ ClaimNo l claim → tcode l letter claim = 0 ∧ truL l letter claim = truTo l letter claim l.length) := fun h => ⟨tcode_ok hc h, by unfold truL truTo; rw [tcode_ok hc h]; rfl⟩
    generalize tcode l letter claim = x at *
    generalize truL l letter claim = res at *
    have hin := fun w => in_any claim 0 ((2 : Int) ^ (aheadL l).length - 1) w
    obtain ⟨an, han⟩ : ∃ an, an = (aheadL l).length := ⟨_, rfl⟩
    have HAN : Hid (an = (aheadL l).length) := han
    rw [← han] at hah h6 hsh HCl hin
    obtain ⟨n, hn⟩ : ∃ n, n = l.length := ⟨_, rfl⟩
    have HN : Hid (n = l.length) := hn
    rw [← hn] at hah h60 HTa HTO HV ⊢
    generalize letter.length = ln at *
    obtain ⟨i0, hi, hz0, hz1, hz2⟩ := info_parts infoBool
    clear hV hL hl hal hc hz hne hlf han hn hp0 hp6
    go_enter Tryd.func17, Tryd.ntmps17
    go_wp2_with (go_at_call 29; refine hah.mono ?_; rintro e w1 ⟨av, rfl, hb1, ho1⟩; obtain ⟨aao, ac, rfl⟩ := owns_slice ho1)
    have HI1 : Hid (TruIn w1 (.slice oo n oc) (.slice lo ln lc) (.slice aao an ac) l letter) := ⟨HV.out.below hb1, HL.out.below hb1, by have := ho1; rw [HAN.out] at this ⊢; exact intsV_of_owns this⟩
    clear hah ho1
    go_loop [10, 11] (fun ms i => ∃ k : Nat, k ≤ an ∧ i = .int .i64 (k : Int) ∧ ms = .int .i64 (2 ^ k)) (fun _ i => an - (intOf i).toNat)
    case atStart => exact ⟨0, Nat.zero_le _, rfl, rfl⟩
    case round =>
      obtain ⟨k, hk, rfl, rfl⟩ := hrel
      by_cases hlt : k < an
      · have h2 : (2 : Int) ^ k * 2 = 2 ^ (k + 1) := (Int.pow_succ 2 k).symm
        have h3 : (2 : Int) ^ (k + 1) ≤ 64 := by
          have hcase : k = 0 ∨ k = 1 ∨ k = 2 ∨ k = 3 ∨ k = 4 ∨ k = 5 := by omega
          rcases hcase with rfl | rfl | rfl | rfl | rfl | rfl <;> decide
        have h4 : (0 : Int) < 2 ^ k := Int.pow_pos (by decide)
        have HP : Hid ((2 : Int) ^ k * 2 = 2 ^ (k + 1)) := h2
        rw [← h2] at h3
        generalize (2 : Int) ^ k = pw at *
        clear h2
        go_wp2_with fail
        exact ⟨⟨k + 1, hlt, by first | rfl | simp, by rw [HP.out]⟩, by simp [intOf]; omega⟩
      · obtain rfl : k = an := by omega
        have h4 : (0 : Int) < 2 ^ k := Int.pow_pos (by decide)
        rcases HTr with HNo | HYes
        · have hnc : ¬ (claim < 0 ∨ 2 ^ k ≤ claim) := fun h => HNo.out (HCl.out.2 h)
          obtain ⟨hx0, hrl⟩ := HTO.out (fun h => HNo.out h)
          have HRL : Hid (res = truTo l letter claim n) := hrl
          have HX0 : Hid (x = 0) := hx0
          rw [show decide (0 ≤ claim ∧ claim ≤ 2 ^ k - 1) = true by simp; omega] at hin
          have HTa2 := (show Hid _ from HTa.out (fun h => HNo.out h))
          generalize (2 : Int) ^ k = pw at *
          clear hnc hx0 hrl hlt hk HTO HTC HTa HCl HNo
          go_wp2_with (go_at_call 30; refine (hin _).mono ?_; rintro e wz ⟨rfl, hwz⟩; obtain rfl := hwz.symm)
          go_loopw [12, 13] (fun out i wr => ∃ q : Nat, q ≤ n ∧ i = .int .i64 (q : Int) ∧ Hid (wr.ownsRow w1.heap.size 4 1 out (truTo l letter claim q).length (bvals (truTo l letter claim q))) ∧ Below w1.heap.size w1 wr) (fun _ i _ => n - (intOf i).toNat)
          case atStart => exact ⟨0, Nat.zero_le _, rfl, World.ownsRow_nil _ _ _ _, Below.refl _ _⟩
          case round =>
            obtain ⟨q, hq, rfl, HOw, hbel⟩ := hrel
            have hown := HOw.out
            rw [truTo_length] at hown
            obtain ⟨ro, rc, rfl⟩ := owns_slice hown
            by_cases hlt : q < n
            · have hta := HTa2.out q wr _ hlt (HI1.out.below hbel)
              have HS : Hid (truTo l letter claim (q + 1) = truTo l letter claim q ++ [tru l letter claim q]) := truTo_succ _ _ _ _
              generalize tru l letter claim q = tv at *
              have h63 : q + 1 ≤ maxLen := by unfold maxLen; omega
              have hkb : (q + 1) * 1 ≤ 140737488355328 := by omega
              clear HOw HTa2
              go_wp2_with (first | (go_at_call 31; refine hta.mono ?_; rintro e w3 ⟨rfl, hb3⟩; have ho3 := fun o => (owns_later hown hb3 (Nat.le_refl _)).alloc o; have hb13 := hbel.trans (hb3.mono hbel.size); have hbase : ∀ o, w1.heap.size ≤ (w3.alloc o).heap.size := (fun o => by have := hb13.size; simp; omega)) | (at_builtin; refine wpList_append_own _ rfl _ _ 47 rfl w1.heap.size 4 i0 (.bool false) 1 1 Tryd.underlying47 hi hz0 hz1 hz2 rfl (by decide) _ _ _ rfl (ho3 _) ⟨_, 0, none⟩ 1 1 _ rfl rfl (cell_one_new _ _ _) (by intro u hu; simp at hu; subst hu; rfl) h63 hkb (hbase _) ?_; intro v5 w5 hown5 hgrow5 _; obtain ⟨g5, cp5, rfl⟩ := owns_more hown5))
              have hb5 : Below w1.heap.size w1 w5 := (hb13.alloc hb13.size _).grown hgrow5 (hbase _) (owns_block hown)
              refine ⟨⟨q + 1, hlt, by first | rfl | simp, ?_, hb5⟩, by simp [intOf]; omega⟩
              show World.ownsRow _ _ _ _ _ _ _
              rw [truTo_length, HS.out]
              rw [show bvals (truTo l letter claim q ++ [tv]) = bvals (truTo l letter claim q) ++ [.bool tv] by simp [bvals]]
              exact hown5
            · obtain rfl : q = n := by omega
              have HO2 : Hid (BoolsV wr (.slice ro q rc) (truTo l letter claim q)) := by
                have := HOw.out
                show BoolsV _ _ _
                exact boolsV_of_owns this
              clear HOw hown HTa2
              go_wp2_with fail
              go_ret2
              rw [HX0.out, HRL.out]
              exact ⟨_, rfl, hb1.trans (hbel.mono hb1.size), HO2.out⟩
        · have hnc : claim < 0 ∨ 2 ^ k ≤ claim := HCl.out.1 HYes.out
          obtain ⟨hx0, hrl⟩ := HTC.out HYes.out
          rw [show decide (0 ≤ claim ∧ claim ≤ 2 ^ k - 1) = false by simp; omega] at hin
          generalize (2 : Int) ^ k = pw at *
          subst hx0 hrl
          clear hnc hlt hk HTO HTC HTa HCl HYes
          go_wp2_with (go_at_call 30; refine (hin _).mono ?_; rintro e wz ⟨rfl, hwz⟩; obtain rfl := hwz.symm)
          go_ret2
          exact ⟨_, rfl, hb1, none, 0, rfl, fun h => absurd rfl h⟩
  · have HX : Hid (tcode l letter claim = lcode letter.length l ∧ truL l letter claim = []) := ⟨tcode_bad hc, by unfold truL; rw [if_neg (by rw [tcode_bad hc]; exact hc)]⟩
    rw [HX.out.1, HX.out.2]
    generalize lcode letter.length l = x at *
    generalize letter.length = ln at *
    generalize l.length = n at *
    clear hV hL hl HX
    go_enter Tryd.func17, Tryd.ntmps17
    go_wp2_with (go_at_call 29; refine hah.mono ?_; rintro e w1 ⟨av, rfl, hb1, ho1⟩; obtain ⟨aao, ac, rfl⟩ := owns_slice ho1)
    go_ret2
    exact ⟨_, rfl, hb1, none, 0, rfl, fun h => absurd rfl h⟩
end Go.Proofs.YtdlpmomohbdpgaaDoor

/-
  The document's own: how many claims there are, where runs begin; two lists of spots compared.
-/
namespace Go.Proofs.YtdlpmomohbdpgaaDoor
open Go.ChangeShapes Go.WideShapes Go.ChangeAt Go.RowKit Go.Deep
open Terms Tm

set_option maxHeartbeats 1600000 in
set_option maxRecDepth 20000 in
theorem many_any (va vr pv fv : Value) (m : Mo) (ps : List (List (Int × Int))) (l : List (Int × Int)) (w : World) (hV : TaskV w va vr pv fv m ps l) (hc : tkcode m ps l = 0) :
    Calls Tryd.prog 16 #[.agg #[va, vr, pv, fv]] w fun e w' => e = .returned (.int .i64 ((2 ^ (aheadL l).length : Nat) : Int)) ∧ Below w.heap.size w w' := by
  have hA : ∀ o, Below w.heap.size w (w.alloc o) := fun o => (Below.refl _ _).alloc (Nat.le_refl _) o
  obtain ⟨_, hl0⟩ := tk_zero hc
  have h6 := (lcode_zero hl0).2.2.2.2
  obtain ⟨ao, ac, rfl⟩ := hV.mo.1.shape
  obtain ⟨ro, rc, rfl⟩ := hV.mo.2.shape
  obtain ⟨po, pc, rfl⟩ := hV.ps.shape
  obtain ⟨fo, fc, rfl, _⟩ := id hV.fo
  have hah : Calls Tryd.prog 29 #[.slice fo l.length fc, .int .i64 (ps.length : Int)] (w.alloc (.cells #[.slice ao m.vars.length ac, .slice ro m.rules.length rc, .slice po ps.length pc, .slice fo l.length fc] 29)) fun e w' => ∃ ho hcp, e = .returned (.tuple #[.slice ho (aheadL l).length hcp, .int .i64 0]) ∧ Below (w.alloc (.cells #[.slice ao m.vars.length ac, .slice ro m.rules.length rc, .slice po ps.length pc, .slice fo l.length fc] 29)).heap.size (w.alloc (.cells #[.slice ao m.vars.length ac, .slice ro m.rules.length rc, .slice po ps.length pc, .slice fo l.length fc] 29)) w' := by
    refine (aheadOf_any _ l ps.length _ (hV.fo.below (hA _))).mono fun e w' ⟨av, h1, h2, h3⟩ => ?_
    have e1 : ahL ps.length l = aheadL l := by unfold ahL; rw [if_pos hl0]
    rw [e1] at h3
    obtain ⟨a, c, rfl⟩ := owns_slice h3
    exact ⟨a, c, by rw [h1, hl0], h2⟩
  have hpow : ∀ k : Nat, k ≤ 6 → 2 ^ k ≤ 64 := fun k hk => Nat.pow_le_pow_right (show 0 < 2 by decide) hk
  generalize (aheadL l).length = an at *
  generalize m.vars.length = vn at *
  generalize m.rules.length = rn at *
  generalize ps.length = pn at *
  generalize l.length = fn at *
  clear hV hc hl0
  go_enter Tryd.func16, Tryd.ntmps16
  go_wp2_with (first | (go_at_call 29; refine hah.mono ?_; rintro e w1 ⟨ho, hcp, rfl, hb1⟩; have hbw := (hA _).trans (hb1.mono (hA _).size)))
  go_loopw [5, 6] (fun x i wr => ∃ k n : Nat, k ≤ an ∧ i = .int .i64 k ∧ x = .int .i64 n ∧ Hid (n = 2 ^ k) ∧ wr = w1) (fun _ i _ => an - (intOf i).toNat)
  case atStart => exact ⟨0, 1, Nat.zero_le _, rfl, rfl, rfl, rfl⟩
  case round =>
    obtain ⟨k, n, hk, rfl, rfl, HN, rfl⟩ := hrel
    have hn64 : n ≤ 64 := by rw [HN.out]; exact hpow k (by omega)
    by_cases hlt : k < an
    · have HN2 : Hid (n * 2 = 2 ^ (k + 1)) := by show _ = _; rw [Nat.pow_succ, HN.out]
      clear HN
      go_wp2_with fail
      go_roundw
      case rel => exact ⟨k + 1, n * 2, by omega, by go_num, by go_num, HN2, by trivial⟩
      case measure => simp [intOf]; omega
    · obtain rfl : k = an := by omega
      go_wp2_with fail
      go_ret
      exact ⟨by rw [← HN.out]; rfl, hbw⟩

set_option maxHeartbeats 1600000 in
set_option maxRecDepth 20000 in
theorem sameSpots_true (va vb : Value) (l : List (Int × Int)) (w : World) (hl : l.length ≤ 1048576) (hA : SpV w va l) (hB : SpV w vb l) :
    Calls Tryd.prog 7 #[va, vb] w fun e w' => e = .returned (.bool true) ∧ ∃ n, w' = w.drewN n := by
  obtain ⟨ao, ca, rfl, ha⟩ := hA
  obtain ⟨bo, cb, rfl, hb⟩ := hB
  obtain ⟨n, hn⟩ : ∃ n, l.length = n := ⟨_, rfl⟩
  rw [hn] at hl ⊢
  have HA : Hid (l ≠ [] → ∃ b off, ao = some ⟨b, off, none⟩ ∧ b < w.heap.size ∧ OpsAt w b off l) := ha
  have HB : Hid (l ≠ [] → ∃ b off, bo = some ⟨b, off, none⟩ ∧ b < w.heap.size ∧ OpsAt w b off l) := hb
  have HN : Hid (l.length = n) := hn
  clear ha hb hn
  go_enter Tryd.func7, Tryd.ntmps7
  go_wp2
  go_loopw [5] (fun i wr => ∃ k : Nat, k ≤ n ∧ i = .int .i64 k ∧ ∃ q, wr = w.drewN q) (fun i _ => n - (intOf i).toNat)
  case atStart => exact ⟨0, Nat.zero_le _, rfl, 0, rfl⟩
  case round =>
    obtain ⟨k, hk, rfl, q, rfl⟩ := hrel
    by_cases hlt : k < n
    · have hne : l ≠ [] := by intro h; subst h; have := HN.out; simp at this; omega
      obtain ⟨b, off, rfl, _, hca⟩ := HA.out hne
      obtain ⟨b', off', rfl, _, hcb⟩ := HB.out hne
      obtain ⟨c1, c2⟩ := hca k (by rw [HN.out]; exact hlt)
      obtain ⟨c3, c4⟩ := hcb k (by rw [HN.out]; exact hlt)
      generalize (l.getD k (0, 0)).1 = x at c1 c3
      generalize (l.getD k (0, 0)).2 = y at c2 c4
      clear hca hcb hne
      go_wp2_with fail
      go_quiet (fail)
      go_wp2_with fail
      go_roundw
      case rel => exact ⟨k + 1, by omega, by go_num, _, rfl⟩
      case measure => simp [intOf]; omega
    · go_wp2_with fail
      go_ret
      exact ⟨rfl, q, rfl⟩

set_option maxHeartbeats 3200000 in
set_option maxRecDepth 20000 in
/-- THE CONTRACT OF BeginOf. -/
theorem beginOf_any (va vr pv fv : Value) (m : Mo) (ps : List (List (Int × Int))) (l : List (Int × Int)) (w : World) (hZ : m.vars.length * 40 ≤ 140737488355328) (hp1 : ps.length * 24 ≤ 140737488355328) (hV : TaskV w va vr pv fv m ps l) :
    Calls Tryd.prog 6 #[.agg #[va, vr, pv, fv]] w (BegPost w m ps l) := by
  have hA : ∀ o, Below w.heap.size w (w.alloc o) := fun o => (Below.refl _ _).alloc (Nat.le_refl _) o
  obtain ⟨ao, ac, rfl⟩ := hV.mo.1.shape
  obtain ⟨ro, rc, rfl⟩ := hV.mo.2.shape
  obtain ⟨po, pc, rfl⟩ := hV.ps.shape
  obtain ⟨fo, fc, rfl, _⟩ := id hV.fo
  have hp := taskFault_any _ _ _ _ m ps l _ hp1 (hV.below (hA (.cells #[.slice ao m.vars.length ac, .slice ro m.rules.length rc, .slice po ps.length pc, .slice fo l.length fc] 29)))
  unfold BegPost
  by_cases hc : tkcode m ps l = 0
  · obtain ⟨hp0, hl0⟩ := tk_zero hc
    obtain ⟨hm0, _⟩ := pcode_m hp0
    have h6 := (lcode_zero hl0).2.2.2.2
    have hne := tk_ne hc
    have hnei : (0 : Int) < (l.length : Int) := by omega
    have HFi : Hid (∀ w1, Below w.heap.size w w1 → Calls Tryd.prog 14 #[.agg #[.slice ao m.vars.length ac, .slice ro m.rules.length rc]] w1 fun e w' => e = .returned (.tuple #[.int .i64 (begC m), .int .i64 0]) ∧ Below w1.heap.size w1 w') := fun w1 h => by
      have := rfirst_any _ _ m w1 hZ (hV.mo.below h)
      rw [if_pos hm0, hm0] at this
      exact this
    have HLe : Hid (∀ w1, Below w.heap.size w w1 → Calls Tryd.prog 15 #[.agg #[.slice ao m.vars.length ac, .slice ro m.rules.length rc], .slice po ps.length pc, .int .i64 (begC m)] w1 fun e w' => ∃ lo lc, e = .returned (.tuple #[.slice lo ps.length lc, .int .i64 0]) ∧ Below w1.heap.size w1 w' ∧ Hid (BoolsV w' (.slice lo ps.length lc) (letL m ps (begC m)))) := fun w1 h => by
      refine (rletter_any _ _ _ m ps (begC m) w1 hp1 (hV.mo.below h) (hV.ps.below h)).mono fun e w' ⟨v, h1, h2, h3⟩ => ?_
      obtain ⟨t1, t2⟩ := tk_let hc (tk_beg hc)
      obtain ⟨lo, lc, rfl, hx⟩ := h3
      rw [t2] at h1
      exact ⟨lo, lc, by rw [h1, t1], h2, ⟨lo, lc, by rw [t2], hx⟩⟩
    have HTr : Hid (∀ (k : Nat) (lv : Value) (w1 : World), k < 2 ^ (aheadL l).length → Below w.heap.size w w1 → BoolsV w1 lv (letL m ps (begC m)) → Calls Tryd.prog 17 #[.slice fo l.length fc, lv, .int .i64 (k : Int)] w1 fun e w' => ∃ b off c, e = .returned (.tuple #[.slice (some ⟨b, off, none⟩) l.length c, .int .i64 0]) ∧ Below w1.heap.size w1 w' ∧ w'.cell? ⟨b, off, none⟩ = some (.bool (tru l (letL m ps (begC m)) (k : Int) 0))) := fun k lv w1 hk h hl => by
      refine (rtruths_any _ lv l (letL m ps (begC m)) (k : Int) w1 (hV.fo.below h) hl).mono fun e w' ⟨v, h1, h2, h3⟩ => ?_
      obtain ⟨t1, t2⟩ := tk_tru hc (tk_beg hc) hk
      rw [t2] at h3
      obtain ⟨lo, lc, rfl, hx⟩ := h3
      obtain ⟨b, off, rfl, _, hat⟩ := hx (by intro h0; have := congrArg List.length h0; rw [List.length_map, List.length_range, List.length_nil] at this; omega)
      have c0 := hat 0 (by simpa using hne)
      refine ⟨b, off, lc, by rw [h1, t1]; simp, h2, ?_⟩
      rw [Nat.add_zero] at c0
      rw [c0]
      simp [List.getD_eq_getElem?_getD, hne]
    have HMa : Hid (∀ w1, Below w.heap.size w w1 → Calls Tryd.prog 16 #[.agg #[.slice ao m.vars.length ac, .slice ro m.rules.length rc, .slice po ps.length pc, .slice fo l.length fc]] w1 fun e w' => e = .returned (.int .i64 ((2 ^ (aheadL l).length : Nat) : Int)) ∧ Below w1.heap.size w1 w') := fun w1 h => many_any _ _ _ _ m ps l w1 (hV.below h) hc
    have hq64 : 2 ^ (aheadL l).length ≤ 64 := Nat.pow_le_pow_right (show 0 < 2 by decide) h6
    have HNil : Hid (begTo m ps l 0 = []) := rfl
    have HSt : Hid (∀ k, begTo m ps l (k + 1) = if tru l (letL m ps (begC m)) (k : Int) 0 = true then begTo m ps l k else begTo m ps l k ++ [(begC m, (k : Int))]) := fun k => rfl
    rw [begR_ok hc]
    rw [hc] at hp ⊢
    unfold begL
    generalize begTo m ps l = bg at *
    generalize letL m ps (begC m) = lt at *
    generalize begC m = first at *
    generalize m.vars.length = vn at *
    generalize m.rules.length = rn at *
    generalize ps.length = pn at *
    generalize (aheadL l).length = an at *
    generalize 2 ^ an = N at *
    have HTru : Hid (∀ k : Nat, tru l lt (k : Int) 0 = true ∨ tru l lt (k : Int) 0 = false) := fun k => by cases tru l lt (k : Int) 0 <;> simp
    generalize hfn : l.length = fn at *
    clear hV hc hl0 hp0 hm0 h6 hfn
    have HB : Hid (∀ w1, Below (w.heap.size + 1) (w.alloc (.cells #[.slice ao vn ac, .slice ro rn rc, .slice po pn pc, .slice fo fn fc] 29)) w1 → w1.cell? ⟨w.heap.size, 0, none⟩ = some (.slice ao vn ac) ∧ w1.cell? ⟨w.heap.size, 1, none⟩ = some (.slice ro rn rc) ∧ w1.cell? ⟨w.heap.size, 2, none⟩ = some (.slice po pn pc) ∧ w1.cell? ⟨w.heap.size, 3, none⟩ = some (.slice fo fn fc)) := fun w1 h => ⟨(h.cell (p := ⟨w.heap.size, 0, none⟩) (Nat.lt_succ_self _)).trans (by simp [go_sem]), (h.cell (p := ⟨w.heap.size, 1, none⟩) (Nat.lt_succ_self _)).trans (by simp [go_sem]), (h.cell (p := ⟨w.heap.size, 2, none⟩) (Nat.lt_succ_self _)).trans (by simp [go_sem]), (h.cell (p := ⟨w.heap.size, 3, none⟩) (Nat.lt_succ_self _)).trans (by simp [go_sem])⟩
    go_enter Tryd.func6, Tryd.ntmps6
    go_wp2_with (first
      | (go_at_call 13; refine hp.mono ?_; rintro e w1 ⟨rfl, hb1⟩; have hbw1 := (hA _).trans (hb1.mono (hA _).size); have hk1 : Below (w.heap.size + 1) (w.alloc (.cells #[.slice ao vn ac, .slice ro rn rc, .slice po pn pc, .slice fo fn fc] 29)) w1 := (by simpa using hb1); have hz1 : w.heap.size + 1 ≤ w1.heap.size := (by have := hb1.size; simpa using this); obtain ⟨a0, a1, a2, a3⟩ := HB.out w1 hk1; have hfi := HFi.out w1 hbw1)
      | (go_at_call 14; refine hfi.mono ?_; rintro e w2 ⟨rfl, hb2⟩; have hbw2 := hbw1.trans (hb2.mono hbw1.size); obtain ⟨b0, b1, b2, b3⟩ := HB.out w2 (hk1.trans (hb2.mono hz1)); have hle := HLe.out w2 hbw2)
      | (go_at_call 15; refine hle.mono ?_; rintro e w3 ⟨lo, lc, rfl, hb3, HLv⟩; have hbw3 := hbw2.trans (hb3.mono hbw2.size); have hb23 := hb2.trans (hb3.mono hb2.size); obtain ⟨c0, c1, c2, c3⟩ := HB.out w3 (hk1.trans (hb23.mono hz1)); have hma := HMa.out w3 hbw3)
      | (go_at_call 16; refine hma.mono ?_; rintro e w4 ⟨rfl, hb4⟩; have hbw4 := hbw3.trans (hb4.mono hbw3.size); have hb24 := hb23.trans (hb4.mono hb23.size); have hk4 := hk1.trans (hb24.mono hz1)))
    have HLet : Hid (∀ w5, Below w4.heap.size w4 w5 → BoolsV w5 (.slice lo pn lc) lt) := fun w5 h => (HLv.out.below hb4).below h
    have HF : Hid (∀ w5, Below w4.heap.size w4 w5 → w5.cell? ⟨w.heap.size, 3, none⟩ = some (.slice fo fn fc)) := fun w5 h => (HB.out w5 (hk4.trans (h.mono (Nat.le_trans hz1 hb24.size)))).2.2.2
    clear hp hfi hle hma HFi HLe HMa HB a0 a1 a2 a3 b0 b1 b2 b3 c0 c1 c2 c3 HLv
    go_loopw [10, 11] (fun u i wr => ∃ k : Nat, k ≤ N ∧ i = .int .i64 k ∧ (∃ so sn sc, u = .slice so sn sc ∧ sn ≤ k ∧ Hid ((bg k).length = sn ∧ SpO wr w4.heap.size (.slice so sn sc) (bg k))) ∧ Below w4.heap.size w4 wr) (fun _ i _ => N - (intOf i).toNat)
    case atStart => exact ⟨0, Nat.zero_le _, rfl, ⟨none, 0, 0, rfl, Nat.le_refl _, by rw [HNil.out]; rfl, by rw [HNil.out]; exact SpO.nil _ _⟩, Below.refl _ _⟩
    case round =>
      obtain ⟨k, hk, rfl, ⟨so, sn, sc, rfl, hsn, HSp⟩, hbr3⟩ := hrel
      have hbr := hbw4.trans (hbr3.mono hbw4.size)
      have p3 := HF.out wr hbr3
      by_cases hkN : k < N
      · have htr := HTr.out k _ wr hkN hbr (HLet.out wr hbr3)
        have hst := HSt.out k
        have HSk : Hid (∀ w4', Below wr.heap.size wr w4' → SpO w4' w4.heap.size (.slice so sn sc) (bg k)) := fun w4' h => HSp.out.2.later h (Nat.le_refl _)
        have HSl : Hid ((bg k).length = sn) := HSp.out.1
        rcases HTru.out k with ht | ht
        · rw [ht] at htr hst
          rw [if_pos rfl] at hst
          have HE : Hid (bg (k + 1) = bg k) := hst
          clear hst ht HSp
          go_wp2_with (first | (go_at_call 17; refine htr.mono ?_; rintro e w5 ⟨b, off, c, rfl, hb5, d0⟩; have hbw5 := hbr3.trans (hb5.mono hbr3.size)))
          go_roundw
          case rel => exact ⟨k + 1, by omega, by go_num, ⟨so, sn, sc, rfl, by omega, by rw [HE.out]; exact HSl.out, by rw [HE.out]; exact HSk.out _ hb5⟩, hbw5⟩
          case measure => simp [intOf]; omega
        · rw [ht] at htr hst
          rw [if_neg (by simp)] at hst
          have HE : Hid (bg (k + 1) = bg k ++ [(first, (k : Int))]) := hst
          clear hst ht HSp
          go_wp2_with (first | (go_at_call 17; refine htr.mono ?_; rintro e w5 ⟨b, off, c, rfl, hb5, d0⟩; have hbw5 := hbr3.trans (hb5.mono hbr3.size); have hsp := HSk.out _ hb5; have hs5 := hbw5.size) | (at_builtin; refine push_sp first (k : Int) rfl _ _ rfl w4.heap.size sn sc so (bg k) HSl.out rfl hsp rfl (by omega) hs5 ?_; intro vo6 cap6 w6 ho6 hb6 hg6; have HO6 : Hid (SpO w6 w4.heap.size (.slice vo6 (sn + 1) cap6) (bg k ++ [(first, (k : Int))])) := ho6; have hbw6 := hbw5.trans hb6; clear ho6 hg6 hsp))
          go_roundw
          case rel => exact ⟨k + 1, by omega, by go_num, ⟨vo6, sn + 1, cap6, rfl, by omega, by rw [HE.out, List.length_append, HSl.out]; rfl, by rw [HE.out]; exact HO6.out⟩, hbw6⟩
          case measure => simp [intOf]; omega
      · obtain rfl : k = N := by omega
        have HSl : Hid ((bg k).length = sn) := HSp.out.1
        have HSk : Hid (SpO wr w.heap.size (.slice so sn sc) (bg k)) := owns_mono HSp.out.2 hbw4.size
        clear HSp
        go_wp2_with fail
        go_ret2
        refine ⟨so, sc, by rw [HSl.out]; rfl, hbr, by rw [HSl.out]; exact HSk.out⟩
  · rw [begR_bad hc]
    generalize tkcode m ps l = c at *
    generalize m.vars.length = vn at *
    generalize m.rules.length = rn at *
    generalize ps.length = pn at *
    generalize l.length = fn at *
    clear hV
    go_enter Tryd.func6, Tryd.ntmps6
    go_wp2_with (first | (go_at_call 13; refine hp.mono ?_; rintro e w1 ⟨rfl, hb1⟩; have hbw := (hA _).trans (hb1.mono (hA _).size)))
    go_ret2
    exact ⟨none, 0, rfl, hbw, SpO.nil _ _⟩
end Go.Proofs.YtdlpmomohbdpgaaDoor

/-
  The walk of the law ProductBegins.
-/
namespace Go.Proofs.YtdlpmomohbdpgaaDoor
open Go.ChangeShapes Go.WideShapes Go.ChangeAt Go.RowKit Go.Deep
open Terms Tm

theorem belowN {a : Nat} {w w' : World} (h : Below a w w') (n : Nat) : Below a w (w'.drewN n) := ⟨h.os, h.tape, h.output, h.size, h.block⟩
theorem four_kept {w w' : World} {x0 x1 x2 x3 : Value} {t : TypeId} (h : Below (w.alloc (.cells #[x0, x1, x2, x3] t)).heap.size (w.alloc (.cells #[x0, x1, x2, x3] t)) w') : w'.cell? ⟨w.heap.size, 0, none⟩ = some x0 ∧ w'.cell? ⟨w.heap.size, 1, none⟩ = some x1 ∧ w'.cell? ⟨w.heap.size, 2, none⟩ = some x2 ∧ w'.cell? ⟨w.heap.size, 3, none⟩ = some x3 := ⟨(h.cell (p := ⟨w.heap.size, 0, none⟩) (by simp)).trans (by simp [go_sem]), (h.cell (p := ⟨w.heap.size, 1, none⟩) (by simp)).trans (by simp [go_sem]), (h.cell (p := ⟨w.heap.size, 2, none⟩) (by simp)).trans (by simp [go_sem]), (h.cell (p := ⟨w.heap.size, 3, none⟩) (by simp)).trans (by simp [go_sem])⟩

set_option maxHeartbeats 1600000 in
set_option maxRecDepth 20000 in
theorem productBegins_walk (va vr pv fv : Value) (m : Mo) (ps : List (List (Int × Int))) (l : List (Int × Int)) (w : World) (hB : 0 < w.heap.size) (hT : TabAt w) (hZ : TkSz m ps l) (hV : TaskV w va vr pv fv m ps l) :
    Calls Tryd.prog 3 #[.agg #[va, vr, pv, fv]] w fun e w' => e = .returned (.bool true) ∧ Below w.heap.size w w' := by
  obtain ⟨ao, ac, rfl⟩ := hV.mo.1.shape
  obtain ⟨ro, rc, rfl⟩ := hV.mo.2.shape
  obtain ⟨po, pc, rfl⟩ := hV.ps.shape
  obtain ⟨fo, fc, rfl, _⟩ := id hV.fo
  have HTk : Hid (∀ w1, Below w.heap.size w w1 → Calls Tryd.prog 5 #[.agg #[.slice ao m.vars.length ac, .slice ro m.rules.length rc, .slice po ps.length pc, .slice fo l.length fc]] w1 fun e w' => ∃ ao vn ac ro rn rc po pn pc fo fn fc, e = .returned (.agg #[.slice ao vn ac, .slice ro rn rc, .slice po pn pc, .slice fo fn fc]) ∧ Below w1.heap.size w1 w' ∧ Hid (TaskV w' (.slice ao vn ac) (.slice ro rn rc) (.slice po pn pc) (.slice fo fn fc) m ps l)) := fun w1 h => tasks_any _ _ _ _ m ps l w1 hZ (hV.below h)
  have HCk : Hid (∀ w1 va vr pv fv, Below w.heap.size w w1 → TaskV w1 va vr pv fv m ps l → Calls Tryd.prog 4 #[.agg #[va, vr, pv, fv]] w1 (BegPost w1 m ps l)) := fun w1 va vr pv fv h hv => pbegin_any va vr pv fv m ps l w1 (Nat.lt_of_lt_of_le hB h.size) (hT.below h hB) hv
  have HRf : Hid (∀ w1, Below w.heap.size w w1 → Calls Tryd.prog 6 #[.agg #[.slice ao m.vars.length ac, .slice ro m.rules.length rc, .slice po ps.length pc, .slice fo l.length fc]] w1 (BegPost w1 m ps l)) := fun w1 h => beginOf_any _ _ _ _ m ps l w1 hZ.mo.1 hZ.p1 (hV.below h)
  have HSm : Hid (∀ (a b : Value) (w1 : World), SpV w1 a (begR m ps l) → SpV w1 b (begR m ps l) → Calls Tryd.prog 7 #[a, b] w1 fun e w' => e = .returned (.bool true) ∧ ∃ n, w' = w1.drewN n) := fun a b w1 h1 h2 => sameSpots_true a b _ w1 (by have := begR_len m ps l; omega) h1 h2
  have hA : ∀ o, Below w.heap.size w (w.alloc o) := fun o => (Below.refl _ _).alloc (Nat.le_refl _) o
  unfold BegPost at HCk HRf
  generalize begR m ps l = bg at *
  generalize tkcode m ps l = x at *
  generalize bg.length = bn at *
  generalize m.vars.length = vn at *
  generalize m.rules.length = rn at *
  generalize ps.length = pn at *
  generalize l.length = fn at *
  clear hV hZ hT
  have htk := HTk.out _ (hA (.cells #[.slice ao vn ac, .slice ro rn rc, .slice po pn pc, .slice fo fn fc] 29))
  go_enter Tryd.func3, Tryd.ntmps3
  go_wp2_with (first
    | (go_at_call 5; refine htk.mono ?_; rintro e w1 ⟨a1, n1, c1, a2, n2, c2, a3, n3, c3, a4, n4, c4, rfl, hb1, HV1⟩; have hbw1 := (hA _).trans (hb1.mono (hA _).size); have hck := HCk.out _ _ _ _ _ hbw1 HV1.out)
    | (go_at_call 4; refine hck.mono ?_; rintro e w2 ⟨so, sc, rfl, hb2, HO⟩; have hbw2 := hbw1.trans (hb2.mono hbw1.size); have q2 := four_kept (hb1.trans (hb2.mono hb1.size)); obtain ⟨k0, k1, k2, k3⟩ := q2; have hrf := HRf.out w2 hbw2)
    | (go_at_call 6; refine hrf.mono ?_; rintro e w3 ⟨so', sc', rfl, hb3, HO'⟩; have hbw3 := hbw2.trans (hb3.mono hbw2.size); have hsm := HSm.out _ _ w3 (HO.out.v.below hb3) HO'.out.v)
    | (go_at_call 7; refine hsm.mono ?_; rintro e w4 ⟨rfl, q, rfl⟩))
  go_ret
  exact ⟨by first | rfl | simp, belowN hbw3 q⟩
end Go.Proofs.YtdlpmomohbdpgaaDoor
