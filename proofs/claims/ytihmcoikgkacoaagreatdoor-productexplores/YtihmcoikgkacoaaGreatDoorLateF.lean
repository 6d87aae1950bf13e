/-
  Joined out of RefValues, RefAfter, RefLetter, RefTruths, RefTruL, RefBegin, SameInts, PexW0, RefEx0, RefEx1, RefFollow, in their order: a claim bears at most so many files.
-/
import Derived.Test.YtihmcoikgkacoaaGreatDoorLateE
import Derived.Test.YtihmcoikgkacoaaGreatDoorLateB
import Derived.Deep.AppendLies
import Derived.Deep.RegionHeld3
import Derived.Test.YtihmcoikgkacoaaGreatDoorLateC
import Derived.Test.YtihmcoikgkacoaaGreatDoorLateA
import Derived.Test.YtihmcoikgkacoaaGreatDoorMem
/-
  The contract of the document's own ValuesOf.
-/
namespace Go.Proofs.YtihmcoikgkacoaaGreatDoor
open Go.ChangeShapes Go.WideShapes Go.ChangeAt Go.RowKit Go.Deep
open Terms Tm

theorem ivals_snoc (f : Nat → Int) (k : Nat) : ivals ((List.range (k + 1)).map f) = ivals ((List.range k).map f) ++ [.int .i64 (f k)] := by
  simp [ivals, List.range_succ]

theorem rvalues_bad (va vr : Value) (m : Mo) (code : Int) (w : World) (hV : ModelV w va vr m) (h : mcode m ≠ 0) :
    Calls Tryz.prog 46 #[.agg #[va, vr], .int .i64 code] w fun e w' => e = .returned (.tuple #[.slice none 0 0, .int .i64 (mcode m)]) ∧ Below w.heap.size w w' := by
  have hA : ∀ o, Below w.heap.size w (w.alloc o) := fun o => (Below.refl _ _).alloc (Nat.le_refl _) o
  have hch := fun o => rcount_any va vr m (w.alloc o) (hV.below (hA o))
  rw [if_neg h] at hch
  obtain ⟨ao, cap, rfl⟩ := hV.1.shape
  obtain ⟨ro, rc, rfl⟩ := hV.2.shape
  generalize mcode m = x at *
  generalize m.vars.length = n at *
  generalize m.rules.length = rn at *
  clear hV
  go_enter Tryz.func46, Tryz.ntmps46
  go_wp2_with (go_at_call 20; refine (hch _).mono ?_; rintro e w1 ⟨rfl, hb1⟩)
  go_ret2
  exact ⟨rfl, (hA _).trans (hb1.mono (hA _).size)⟩
theorem rvalues_no (va vr : Value) (m : Mo) (code : Int) (w : World) (hV : ModelV w va vr m) (h : mcode m = 0) (hc : ¬ (0 ≤ code ∧ code < prodTo m.vars m.vars.length)) :
    Calls Tryz.prog 46 #[.agg #[va, vr], .int .i64 code] w fun e w' => e = .returned (.tuple #[.slice none 0 0, .int .i64 9]) ∧ Below w.heap.size w w' := by
  have hA : ∀ o, Below w.heap.size w (w.alloc o) := fun o => (Below.refl _ _).alloc (Nat.le_refl _) o
  have hch := fun o => rcount_any va vr m (w.alloc o) (hV.below (hA o))
  rw [if_pos h, h] at hch
  have hN := (mcode_vars h).prod (j := m.vars.length) (Nat.le_refl _)
  obtain ⟨ao, cap, rfl⟩ := hV.1.shape
  obtain ⟨ro, rc, rfl⟩ := hV.2.shape
  generalize prodTo m.vars m.vars.length = N at *
  generalize m.vars.length = n at *
  generalize m.rules.length = rn at *
  have hin := fun w => in_any code 0 (N - 1) w
  rw [decide_eq_false (show ¬ (0 ≤ code ∧ code ≤ N - 1) by omega)] at hin
  clear hV h hc
  go_enter Tryz.func46, Tryz.ntmps46
  go_wp2_with (first | (go_at_call 20; refine (hch _).mono ?_; rintro e w1 ⟨rfl, hb1⟩) | (go_at_call 22; refine (hin _).mono ?_; rintro e w2 ⟨rfl, rfl⟩))
  go_ret2
  exact ⟨rfl, (hA _).trans (hb1.mono (hA _).size)⟩

set_option maxHeartbeats 3200000 in
theorem rvalues_loop (va vr : Value) (m : Mo) (code : Int) (w : World) (hV : ModelV w va vr m) (h : mcode m = 0) (hc : 0 ≤ code ∧ code < prodTo m.vars m.vars.length) :
    Calls Tryz.prog 46 #[.agg #[va, vr], .int .i64 code] w fun e w' => ∃ v, e = .returned (.tuple #[v, .int .i64 0]) ∧ Below w.heap.size w w' ∧ IntsV w' v (valsL m.vars code) := by
  have hA : ∀ o, Below w.heap.size w (w.alloc o) := fun o => (Below.refl _ _).alloc (Nat.le_refl _) o
  have hch := fun o => rcount_any va vr m (w.alloc o) (hV.below (hA o))
  rw [if_pos h, h] at hch
  have hok := mcode_vars h
  have HOK : Hid (VarsOk m.vars) := hok
  have h6 := hok.1
  obtain ⟨ao, cap, rfl⟩ := hV.1.shape
  obtain ⟨ro, rc, rfl⟩ := hV.2.shape
  have hbv := (fun w1 (hb : Below w.heap.size w w1) a (ha : a ≤ m.vars.length) => behindVar_any (.slice ao m.vars.length cap) ro m.rules.length rc m.vars a w1 hok ha (hV.1.below hb))
  have HBV := (show Hid _ from hbv)
  have HV : Hid (VarsV w (.slice ao m.vars.length cap) m.vars) := hV.1
  have hN := hok.prod (j := m.vars.length) (Nat.le_refl _)
  have HS0 : Hid (segP m.vars 0 = prodTo m.vars m.vars.length) := segP_zero _
  obtain ⟨hc1, hc2⟩ := hc
  generalize prodTo m.vars m.vars.length = N at *
  obtain ⟨n, hn⟩ : ∃ n, n = m.vars.length := ⟨_, rfl⟩
  have HN : Hid (n = m.vars.length) := hn
  rw [← hn] at h6 hch HBV HV ⊢
  generalize m.rules.length = rn at *
  have hin := fun w => in_any code 0 (N - 1) w
  rw [decide_eq_true (show (0 ≤ code ∧ code ≤ N - 1) by omega)] at hin
  obtain ⟨i0, hi, hz0, hz1, hz2⟩ := info_parts infoInt
  have HL : Hid (valsL m.vars code = (List.range n).map (valAt m.vars code)) := by show _ = _; rw [HN.out]; rfl
  clear hV hn hok h hbv
  go_enter Tryz.func46, Tryz.ntmps46
  go_wp2_with (first | (go_at_call 20; refine (hch _).mono ?_; rintro e w1 ⟨rfl, hb1⟩) | (go_at_call 22; refine (hin _).mono ?_; rintro e w2 ⟨rfl, rfl⟩))
  have hb1' : Below (w.heap.size + 1) (w.alloc (.cells #[.slice ao n cap, .slice ro rn rc] 25)) w2 := hb1.mono (by simp)
  clear hch hin hb1
  go_loopw [1, 8, 9] (fun cd vv i wr => ∃ k : Nat, k ≤ n ∧ i = .int .i64 k ∧ cd = .int .i64 (code % segP m.vars k) ∧ Hid (wr.ownsRow (w.heap.size + 1) 3 1 vv k (ivals ((List.range k).map (valAt m.vars code)))) ∧ Below (w.heap.size + 1) (w.alloc (.cells #[.slice ao n cap, .slice ro rn rc] 25)) wr) (fun _ _ i _ => n - (intOf i).toNat)
  case atStart => exact ⟨0, Nat.zero_le _, rfl, by rw [HS0.out, Int.emod_eq_of_lt hc1 hc2], World.ownsRow_nil _ _ _ _, hb1'⟩
  case round =>
    obtain ⟨k, hk, rfl, rfl, HOwn, hbelB⟩ := hrel
    clear hb1'
    have hbel := (hA _).trans (hbelB.mono (Nat.le_succ _))
    have hszb : w.heap.size + 1 ≤ wr.heap.size := by have := hbelB.size; simp at this; omega
    have hlb : w.heap.size < wr.heap.size := by omega
    have cb := (hbelB.cell (p := ⟨w.heap.size, 0, none⟩) (by simp)).trans (show _ = some (.slice ao n cap) by simp [go_sem])
    have cb1 := (hbelB.cell (p := ⟨w.heap.size, 1, none⟩) (by simp)).trans (show _ = some (.slice ro rn rc) by simp [go_sem])
    by_cases hlt : k < n
    · obtain ⟨b, off, rfl, hblt, hat⟩ := HV.out.at (i := k) (by rw [← HN.out]; exact hlt)
      obtain ⟨c0, c1, c2, c3⟩ := hat.below hbel hblt
      have hvb := HOK.out.at (j := k) (by rw [← HN.out]; exact hlt)
      have hsg := segP_bounds HOK.out (i := k + 1) (by rw [← HN.out]; exact hlt)
      have hsg0 := segP_bounds HOK.out (i := k) (by rw [← HN.out]; exact hk)
      have HQ : Hid ((code % segP m.vars k) % segP m.vars (k + 1) = code % segP m.vars (k + 1)) := mod_step code (by rw [← HN.out]; exact hlt)
      have HVa : Hid ((m.vars.getD k vr0).lo + (code % segP m.vars k) / segP m.vars (k + 1) = valAt m.vars code k) := valAt_ref HOK.out code (by rw [← HN.out]; exact hlt)
      have HSn := (show Hid _ from ivals_snoc (valAt m.vars code) k)
      have hcd0 := Int.emod_nonneg code (show segP m.vars k ≠ 0 by omega)
      have hcd1 := Int.emod_lt_of_pos code (show 0 < segP m.vars k by omega)
      have hbvk := HBV.out wr hbel (k + 1) (by omega)
      rw [show ((k + 1 : Nat) : Int) - 1 = (k : Int) by omega] at hbvk
      generalize hcd : code % segP m.vars k = cd at *
      generalize segP m.vars k = sg0 at *
      obtain ⟨sg, hsge⟩ : ∃ sg, segP m.vars (k + 1) = sg := ⟨_, rfl⟩
      have HSG : Hid (segP m.vars (k + 1) = sg) := hsge
      rw [hsge] at hsg hbvk HQ HVa
      generalize m.vars.getD k vr0 = x at *
      obtain ⟨s, lo, hi', ini⟩ := x
      simp only [vspan] at c0 c1 c2 c3 HVa hvb
      obtain ⟨hv1, hv2, hv3, hv4, hv5, hv6, hv7⟩ := hvb
      clear hat hsge hcd
      have hi0 : (0 : Int) ≤ (k : Int) := Int.natCast_nonneg _
      have hi1 : (k : Int) < (n : Int) := by omega
      have hsz0 : ¬ sg = 0 := by omega
      have hsz1 : (sg == 0) = false := by rw [beq_eq_false_iff_ne]; omega
      have ht : cd.tmod sg = cd % sg := Int.tmod_eq_emod_of_nonneg hcd0
      have htd : cd.tdiv sg = cd / sg := Int.tdiv_eq_ediv_of_nonneg hcd0
      have hd0 := Int.ediv_nonneg hcd0 (show 0 ≤ sg by omega)
      have hd1 := Int.ediv_le_self sg hcd0
      have hw0 : IntKind.i64.wrap (cd / sg) = cd / sg := wr64 (by omega) (by omega)
      have hw1 : IntKind.i64.wrap (lo + cd / sg) = lo + cd / sg := wr64 (by omega) (by omega)
      have hbo : b < wr.heap.size := by omega
      have hown := HOwn.out
      go_wp2_with (go_at_call 45; refine hbvk.mono ?_; rintro e w3 ⟨rfl, hb3⟩)
      have hown3 : ∀ o, (w3.alloc o).ownsRow (w.heap.size + 1) 3 1 _ k _ := fun o => (owns_later hown hb3 (Nat.le_refl _)).alloc o
      have hnb := hown.lt
      generalize hxs : ivals ((List.range k).map (valAt m.vars code)) = xs at *
      have HXS : Hid (ivals ((List.range k).map (valAt m.vars code)) = xs) := hxs
      have hs3 : w.heap.size < w3.heap.size := Nat.lt_of_lt_of_le hlb hb3.size
      have hS0 : ∀ w', Below wr.heap.size wr w' → w'.cell? ⟨w.heap.size, 0, none⟩ = some (.slice (some ⟨b, off, none⟩) n cap) ∧ w'.cell? ⟨b, off + k * 4 + 1, none⟩ = some (.int .i64 lo) := fun w' hw' =>
        ⟨(hw'.cell (p := ⟨w.heap.size, 0, none⟩) hlb).trans cb, (hw'.cell (p := ⟨b, off + k * 4 + 1, none⟩) hbo).trans c1⟩
      have hSA : ∀ o, (w3.alloc o).cell? ⟨w.heap.size, 0, none⟩ = some (.slice (some ⟨b, off, none⟩) n cap) ∧ (w3.alloc o).cell? ⟨b, off + k * 4 + 1, none⟩ = some (.int .i64 lo) := fun o => hS0 _ (hb3.alloc hb3.size o)
      have hkb : (k + 1) * 8 ≤ 140737488355328 := by omega
      have h63 : k + 1 ≤ maxLen := by unfold maxLen; omega
      have hbase : ∀ o, w.heap.size + 1 ≤ (w3.alloc o).heap.size := fun o => by simp; omega
      clear hxs hown hbvk HOwn cb cb1 c0 c1 c2 c3
      go_region_held3 (fun w' => w'.cell? ⟨w.heap.size, 0, none⟩ = some (.slice (some ⟨b, off, none⟩) n cap) ∧ w'.cell? ⟨b, off + k * 4 + 1, none⟩ = some (.int .i64 lo))
        (first | exact hS0 _ hb3 | exact hS0 _ hb3.drew | exact hSA _ | exact hk4)
        (first
          | (refine step_append_lies _ (by rfl) (.tmp 34) (.tmp 45) 40 (by rfl) (w.heap.size + 1) 3 i0 _ 1 8 Tryz.underlying40 hi hz0 hz1 hz2 (by rfl) (by decide) _ k xs (by rfl) (hown3 _) ⟨w3.heap.size, 0, none⟩ 1 1 [.int .i64 (lo + cd / sg)] (by rfl) (by rfl) (cell_one_new _ _ _) (by intro u hu; simp at hu; subst hu; rfl) (by decide) h63 hkb (hbase _) (w3.heap.size + 1) (by simp) ?_; intro g cp w4 ho4 hg4 hat4 hl4; have hk4 : w4.cell? ⟨w.heap.size, 0, none⟩ = some (.slice (some ⟨b, off, none⟩) n cap) ∧ w4.cell? ⟨b, off + k * 4 + 1, none⟩ = some (.int .i64 lo) := ⟨(hg4.cell_far ⟨w.heap.size, 0, none⟩ (by simp; omega) (fun he => by have := (hnb _ he.symm).1; simp only at this; omega)).trans (hSA _).1, (hg4.cell_far ⟨b, off + k * 4 + 1, none⟩ (by simp; omega) (fun he => by have := (hnb _ he.symm).1; simp only at this; omega)).trans (hSA _).2⟩))
      have hbk : Below (w.heap.size + 1) (w.alloc (.cells #[.slice (some ⟨b, off, none⟩) n cap, .slice ro rn rc] 25)) w4 := by
        have h3 := hbelB.trans (hb3.mono hszb)
        first
          | exact Below.grown (Below.alloc h3.drew (by simp; omega) _) hg4 (by simp; omega) (fun q hq => (hnb q hq).1)
          | exact Below.grown (Below.alloc h3 (by omega) _) hg4 (by simp; omega) (fun q hq => (hnb q hq).1)
      have HO4 : Hid (w4.ownsRow (w.heap.size + 1) 3 1 (.slice (some ⟨g, 0, none⟩) (k + 1) cp) (k + 1) (ivals ((List.range (k + 1)).map (valAt m.vars code)))) := by
        show World.ownsRow _ _ _ _ _ _ _
        rw [HSn.out, ← HVa.out]
        exact ho4
      clear ho4 hg4 hown3 hk4
      go_wp2_with fail
      go_roundw
      case rel => exact ⟨k + 1, hlt, by go_num, by rw [HSG.out, ← HQ.out], HO4, hbk⟩
      case measure => simp [intOf]; omega
    · have hkn : k = n := by omega
      subst hkn
      have hown := HOwn.out
      obtain ⟨vo, vc, rfl⟩ := owns_slice hown
      have hI : IntsV wr (.slice vo k vc) (valsL m.vars code) := by
        rw [HL.out]
        exact intsV_of_owns (by simpa using hown)
      have HI := (show Hid _ from hI)
      clear hI hown
      go_wp2
      go_ret2
      exact ⟨_, rfl, hbel, HI.out⟩
/-- THE CONTRACT OF ValuesOf. -/
theorem rvalues_any (va vr : Value) (m : Mo) (code : Int) (w : World) (hV : ModelV w va vr m) :
    Calls Tryz.prog 46 #[.agg #[va, vr], .int .i64 code] w fun e w' => ∃ v, e = .returned (.tuple #[v, .int .i64 (wcode m code)]) ∧ Below w.heap.size w w' ∧ IntsV w' v (wvals m code) := by
  by_cases h : mcode m = 0
  · by_cases hc : 0 ≤ code ∧ code < prodTo m.vars m.vars.length
    · have h0 := wcode_yes h hc
      unfold wvals
      rw [h0, if_pos rfl]
      exact rvalues_loop va vr m code w hV h hc
    · have h0 := wcode_no h hc
      unfold wvals
      rw [h0, if_neg (by decide)]
      exact (rvalues_no va vr m code w hV h hc).mono fun e w' ⟨he, hb⟩ => ⟨_, he, hb, none, 0, rfl, fun h => absurd rfl h⟩
  · have h0 := wcode_bad (code := code) h
    unfold wvals
    rw [h0, if_neg h]
    exact (rvalues_bad va vr m code w hV h).mono fun e w' ⟨he, hb⟩ => ⟨_, he, hb, none, 0, rfl, fun h => absurd rfl h⟩
end Go.Proofs.YtihmcoikgkacoaaGreatDoor

/-
  The contract of the document's own AfterRule.
-/
namespace Go.Proofs.YtihmcoikgkacoaaGreatDoor
open Go.ChangeShapes Go.WideShapes Go.ChangeAt Go.RowKit Go.Deep
open Terms Tm

/-- THE CONTRACT OF Evaluated, in the step's words. -/
theorem rex_any (v ev : Value) (l : List (Int × Int)) (env : List Int) (w : World) (hV : OpsV w v l) (hE : IntsV w ev env) :
    Calls Tryz.prog 47 #[v, ev] w fun e w' => e = .returned (.tuple #[.int .i64 (exN l env), .int .i64 (exC l env)]) ∧ Below w.heap.size w w' :=
  evaluated_any v ev l env (treeOf l) w hV hE (treeOf_spec l)
theorem behindL_eq {env : List Int} {r : Ru} (h : ∀ j, j < r.sets.length → 0 ≤ (r.sets.getD j st0).var ∧ (r.sets.getD j st0).var < env.length) : (List.range env.length).map (fun i => setAt env r.sets i r.sets.length) = behindL env r := by
  apply List.ext_getElem?
  intro i
  by_cases hi : i < env.length
  · have h1 := setTo_at (k := r.sets.length) h i
    rw [List.getElem?_map, List.getElem?_range hi]
    have h2 : i < (behindL env r).length := by unfold behindL; rw [setTo_length]; exact hi
    rw [List.getElem?_eq_getElem h2]
    show some (setAt env r.sets i r.sets.length) = _
    rw [← h1]
    unfold behindL at h2 ⊢
    simp [List.getD_eq_getElem?_getD, h2]
  · simp [hi, behindL, setTo_length]

set_option maxHeartbeats 3200000 in
set_option maxRecDepth 20000 in
/-- one rule that is there, at a state. -/
theorem rafter_in (va vr : Value) (m : Mo) (code : Int) (k : Nat) (w : World) (hV : ModelV w va vr m) (hw : wcode m code = 0) (hk : k < m.rules.length) :
    Calls Tryz.prog 48 #[.agg #[va, vr], .int .i64 code, .int .i64 k] w fun e w' => e = .returned (.tuple #[.int .i64 (optN (ruleDo m.vars (valsL m.vars code) (m.rules.getD k ru0))), .int .i64 (optC (ruleDo m.vars (valsL m.vars code) (m.rules.getD k ru0)))]) ∧ Below w.heap.size w w' := by
  have hA : ∀ o, Below w.heap.size w (w.alloc o) := fun o => (Below.refl _ _).alloc (Nat.le_refl _) o
  obtain ⟨hm, _⟩ := wcode_zero hw
  obtain ⟨hr12, hrs⟩ := mcode_rules hm
  have hrk := hrs k hk
  obtain ⟨h6, hsv⟩ := rule_sets hrk
  have hv6 := (mcode_vars hm).1
  have he := valsL_length m.vars code
  have hvl := fun o => rvalues_any va vr m code (w.alloc o) (hV.below (hA o))
  rw [hw, show wvals m code = valsL m.vars code by unfold wvals; rw [if_pos hw]] at hvl
  have HCo : Hid (∀ w' (_ : Below w.heap.size w w') vv vals, IntsV w' vv vals → Calls Tryz.prog 69 #[.agg #[va, vr], vv] w' fun e w2 => e = .returned (.tuple #[.int .i64 (cval m vals), .int .i64 (ccode m vals)]) ∧ Below w'.heap.size w' w2) := fun w' hb vv vals hi => rcodes_any va vr vv m vals w' (hV.below hb) hi
  have HR : Hid (RulesV w vr m.rules) := hV.2
  obtain ⟨ao, cap, rfl⟩ := hV.1.shape
  obtain ⟨ro, rc, rfl⟩ := hV.2.shape
  obtain ⟨b, off, rfl, hblt, hat⟩ := HR.out.at (i := k) hk
  have hin := fun w => in_any k 0 (m.rules.length - 1) w
  rw [decide_eq_true (show (0 : Int) ≤ k ∧ (k : Int) ≤ (m.rules.length : Int) - 1 by omega)] at hin
  have HG : Hid (holdsB (m.rules.getD k ru0).guard (valsL m.vars code) = false → ruleDo m.vars (valsL m.vars code) (m.rules.getD k ru0) = none) := fun h => ruleDo_guard h
  have HGd : Hid (holdsB (m.rules.getD k ru0).guard (valsL m.vars code) = (decide (exC (m.rules.getD k ru0).guard (valsL m.vars code) = 0) && decide (exN (m.rules.getD k ru0).guard (valsL m.vars code) = 1))) := rfl
  have HRS : Hid (∀ j, j < (m.rules.getD k ru0).sets.length → exC ((m.rules.getD k ru0).sets.getD j st0).val (valsL m.vars code) ≠ 0 → ruleDo m.vars (valsL m.vars code) (m.rules.getD k ru0) = none) := fun j hj h => ruleDo_set hj h
  have HRC : Hid (holdsB (m.rules.getD k ru0).guard (valsL m.vars code) = true → setsOk (valsL m.vars code) (m.rules.getD k ru0) → (ccode m (behindL (valsL m.vars code) (m.rules.getD k ru0)) = 0 → ruleDo m.vars (valsL m.vars code) (m.rules.getD k ru0) = some (cval m (behindL (valsL m.vars code) (m.rules.getD k ru0)))) ∧ (ccode m (behindL (valsL m.vars code) (m.rules.getD k ru0)) ≠ 0 → ruleDo m.vars (valsL m.vars code) (m.rules.getD k ru0) = none)) := fun h1 h2 => ruleDo_code h1 h2 he hm rfl
  generalize ruleDo m.vars (valsL m.vars code) (m.rules.getD k ru0) = res at *
  rw [← he] at hsv hv6
  generalize valsL m.vars code = env at *
  generalize m.rules.getD k ru0 = r at *
  have HSV : Hid (∀ j, j < r.sets.length → 0 ≤ (r.sets.getD j st0).var ∧ (r.sets.getD j st0).var < env.length) := hsv
  clear hV hw hm hrs hrk he hsv
  generalize m.vars.length = n at *
  generalize m.rules.length = rn at *
  go_enter Tryz.func48, Tryz.ntmps48
  go_wp2_with (first | (go_at_call 46; refine (hvl _).mono ?_; rintro e w1 ⟨v, rfl, hb1, hI⟩; obtain ⟨vo, vc, rfl⟩ := hI.shape; have hbw1 := (hA _).trans (hb1.mono (hA _).size); have k10 : w1.cell? ⟨w.heap.size, 0, none⟩ = some (.slice ao n cap) := (hb1.cell (p := ⟨w.heap.size, 0, none⟩) (by simp)).trans (by simp [go_sem]); have k11 : w1.cell? ⟨w.heap.size, 1, none⟩ = some (.slice (some ⟨b, off, none⟩) rn rc) := (hb1.cell (p := ⟨w.heap.size, 1, none⟩) (by simp)).trans (by simp [go_sem]); have hs1 : w.heap.size < w1.heap.size := (by have := hb1.size; simp at this; omega); obtain ⟨⟨u, c0, hou⟩, u', c1, hsu⟩ := hat.below hbw1 hblt; obtain ⟨uo, uc, rfl⟩ := hou.shape; obtain ⟨so, sc, rfl⟩ := hsu.shape) | (go_at_call 22; refine (hin _).mono ?_; rintro e w9 ⟨rfl, rfl⟩))
  have hAr : Below w9.heap.size w9 (w9.alloc (.cells #[.slice uo r.guard.length uc, .slice so r.sets.length sc] 94)) := (Below.refl _ _).alloc (Nat.le_refl _) _
  have hbA := hbw1.trans (hAr.mono hbw1.size)
  have q10 : (w9.alloc (.cells #[.slice uo r.guard.length uc, .slice so r.sets.length sc] 94)).cell? ⟨w9.heap.size, 1, none⟩ = some (.slice so r.sets.length sc) := by simp [go_sem]
  have q11 := (hAr.cell (p := ⟨w.heap.size, 0, none⟩) hs1).trans k10
  have q12 := (hAr.cell (p := ⟨w.heap.size, 1, none⟩) hs1).trans k11
  have hIA := hI.below hAr
  have hsA := hsu.below hAr
  have hgu := rex_any _ _ r.guard env _ (hou.below hAr) hIA
  have hszA : w9.heap.size < (w9.alloc (.cells #[.slice uo r.guard.length uc, .slice so r.sets.length sc] 94)).heap.size := by simp
  generalize w9.alloc (.cells #[.slice uo r.guard.length uc, .slice so r.sets.length sc] 94) = W2 at *
  have HK2 : Hid (∀ w', Below W2.heap.size W2 w' → w'.cell? ⟨w9.heap.size, 1, none⟩ = some (.slice so r.sets.length sc) ∧ w'.cell? ⟨w.heap.size, 0, none⟩ = some (.slice ao n cap) ∧ w'.cell? ⟨w.heap.size, 1, none⟩ = some (.slice (some ⟨b, off, none⟩) rn rc)) := fun w' hb => ⟨(hb.cell (p := ⟨w9.heap.size, 1, none⟩) hszA).trans q10, (hb.cell (p := ⟨w.heap.size, 0, none⟩) (Nat.lt_trans hs1 hszA)).trans q11, (hb.cell (p := ⟨w.heap.size, 1, none⟩) (Nat.lt_trans hs1 hszA)).trans q12⟩
  have HI2 : Hid (IntsV W2 (.slice vo env.length vc) env) := hIA
  have HS2 : Hid (SetsV W2 (.slice so r.sets.length sc) r.sets) := hsA
  have HBW2 : Hid (Below w.heap.size w W2) := hbA
  clear hAr hbA q10 q11 q12 hIA hsA hszA hou hsu hI c0 c1 k10 k11 hb1 hbw1 hat hvl hin HR hA hs1
  have hgd := HGd.out
  generalize exN r.guard env = gn at hgu hgd
  generalize exC r.guard env = gc at hgu hgd
  by_cases hc0 : gc = 0
  · by_cases hn1 : gn = 1
    · have hg1 : holdsB r.guard env = true := by rw [hgd]; simp [hc0, hn1]
      have HRC2 : Hid _ := HRC.out hg1
      subst hc0 hn1
      clear hgd HGd HG HRC hg1
      go_wp2_with (go_at_call 47; refine hgu.mono ?_; rintro e w3 ⟨rfl, hb3⟩; obtain ⟨k30, k31, k32⟩ := HK2.out w3 hb3)
      have HBE : Hid ((List.range env.length).map (fun i => setAt env r.sets i r.sets.length) = behindL env r) := behindL_eq HSV.out
      have hI3 := HI2.out.below hb3
      have HI3 : Hid (IntsV w3 (.slice vo env.length vc) env) := hI3
      have HS3 : Hid (SetsV w3 (.slice so r.sets.length sc) r.sets) := HS2.out.below hb3
      have HK3 : Hid (∀ w', Below w3.heap.size w3 w' → w'.cell? ⟨w9.heap.size, 1, none⟩ = some (.slice so r.sets.length sc) ∧ w'.cell? ⟨w.heap.size, 0, none⟩ = some (.slice ao n cap) ∧ w'.cell? ⟨w.heap.size, 1, none⟩ = some (.slice (some ⟨b, off, none⟩) rn rc)) := fun w' hb => HK2.out w' (hb3.trans (hb.mono hb3.size))
      have HBW3 : Hid (Below w.heap.size w w3) := HBW2.out.trans (hb3.mono HBW2.out.size)
      have HEx : Hid (∀ w' (_ : Below w3.heap.size w3 w') v l, OpsV w' v l → Calls Tryz.prog 47 #[v, .slice vo env.length vc] w' fun e w2 => e = .returned (.tuple #[.int .i64 (exN l env), .int .i64 (exC l env)]) ∧ Below w'.heap.size w' w2) := fun w' hb v l hv => rex_any v _ l env w' hv (hI3.below hb)
      obtain ⟨en, hen⟩ : ∃ en, en = env.length := ⟨_, rfl⟩
      have HEN : Hid (en = env.length) := hen
      obtain ⟨sn, hsn⟩ : ∃ sn, sn = r.sets.length := ⟨_, rfl⟩
      have HSN : Hid (sn = r.sets.length) := hsn
      rw [← hen, ← hsn] at HBE
      rw [← hen] at HI3 HEx hv6 ⊢
      rw [← hsn] at HS3 HK3 h6 k30 ⊢
      have HSV2 : Hid (∀ j, j < sn → 0 ≤ (r.sets.getD j st0).var ∧ (r.sets.getD j st0).var < en) := by rw [hsn, hen]; exact HSV.out
      have HRS2 : Hid (∀ j, j < sn → exC (r.sets.getD j st0).val env ≠ 0 → res = none) := by rw [hsn]; exact HRS.out
      obtain ⟨i0, hi, hz0, hz1, hz2⟩ := info_parts infoInt
      clear hen hsn hI3 hb3 hgu HK2 HI2 HS2 HBW2 HSV HRS
      go_loopw [13, 14] (fun out i wr => ∃ q : Nat, q ≤ en ∧ i = .int .i64 q ∧ Hid (∀ j, j < sn → (r.sets.getD j st0).var < q → exC (r.sets.getD j st0).val env = 0) ∧ Hid (wr.ownsRow w3.heap.size 3 1 out q (ivals ((List.range q).map (fun i => setAt env r.sets i sn)))) ∧ Hid (Below w3.heap.size w3 wr)) (fun _ i _ => en - (intOf i).toNat)
      case atStart => exact ⟨0, Nat.zero_le _, rfl, fun j hj h => absurd h (by have := (HSV2.out j hj).1; omega), World.ownsRow_nil _ _ _ _, Below.refl _ _⟩
      case round =>
        obtain ⟨q, hq, rfl, HOK, HOwn, HBel⟩ := hrel
        have hbel := HBel.out
        by_cases hlt : q < en
        · obtain ⟨vb, voff, rfl, hvblt, hvc⟩ := HI3.out.at (i := q) (by rw [← HEN.out]; exact hlt)
          have hvc2 := (hbel.cell (p := ⟨vb, voff + q, none⟩) hvblt).trans hvc
          obtain ⟨kr0, kr1, kr2⟩ := HK3.out wr hbel
          have HA0 : Hid (setAt env r.sets q 0 = env.getD q 0) := rfl
          generalize env.getD q 0 = x0 at hvc2 HA0
          clear hvc k30 k31 k32
          go_wp2_with fail
          obtain ⟨wo, hwo⟩ : ∃ wo, wo = wr := ⟨_, rfl⟩
          subst hwo
          go_loopw [15, 16] (fun x kk wi => ∃ k : Nat, k ≤ sn ∧ kk = .int .i64 k ∧ x = .int .i64 (setAt env r.sets q k) ∧ Hid (∀ j, j < k → (r.sets.getD j st0).var = q → exC (r.sets.getD j st0).val env = 0) ∧ Hid (Below wo.heap.size wo wi)) (fun _ kk _ => sn - (intOf kk).toNat)
          case atStart => exact ⟨0, Nat.zero_le _, rfl, by rw [HA0.out], fun j hj => by omega, Below.refl _ _⟩
          case round =>
            obtain ⟨k, hk', rfl, rfl, HOKi, HBi⟩ := hrel
            have hbi := hbel.trans (HBi.out.mono hbel.size)
            obtain ⟨ki0, ki1, ki2⟩ := HK3.out wr hbi
            by_cases hlk : k < sn
            · obtain ⟨sb, soff, rfl, hsblt, hsat⟩ := HS3.out.at (i := k) (by rw [← HSN.out]; exact hlk)
              obtain ⟨c0, u, c1, hou⟩ := hsat.below hbi hsblt
              obtain ⟨uo2, uc2, rfl⟩ := hou.shape
              have HStep : Hid (setAt env r.sets q (k + 1) = if (r.sets.getD k st0).var = q then exN (r.sets.getD k st0).val env else setAt env r.sets q k) := rfl
              have HOK2 : Hid (((r.sets.getD k st0).var = q → exC (r.sets.getD k st0).val env = 0) → ∀ j, j < k + 1 → (r.sets.getD j st0).var = q → exC (r.sets.getD j st0).val env = 0) := fun h j hj => by
                by_cases hjk : j = k
                · subst hjk; exact h
                · exact HOKi.out j (by omega)
              have HRk : Hid (exC (r.sets.getD k st0).val env ≠ 0 → res = none) := HRS2.out k hlk
              have hex := HEx.out wr hbi _ _ hou
              generalize exN (r.sets.getD k st0).val env = N at hex HStep
              generalize exC (r.sets.getD k st0).val env = C at hex HRk HOK2
              generalize (r.sets.getD k st0).val.length = ul at hex c1 hou
              generalize (r.sets.getD k st0).var = sv at c0 HStep HOK2
              clear hsat hou HRS2 HEx HS3 HSV2 HRC2 HCo HOKi kr0 kr1 kr2
              by_cases hsv : sv = q
              · have hst : setAt env r.sets q (k + 1) = N := by rw [HStep.out, if_pos hsv]
                have HST : Hid (setAt env r.sets q (k + 1) = N) := hst
                by_cases hC : C = 0
                · have HJ : Hid _ := HOK2.out (fun _ => hC)
                  subst hC hsv
                  clear hst HStep HOK2 HRk
                  go_wp2_with (go_at_call 47; refine hex.mono ?_; rintro e w5 ⟨rfl, hb5⟩)
                  refine ⟨⟨k + 1, hlk, by first | rfl | simp, by rw [HST.out], HJ.out, HBi.out.trans (hb5.mono HBi.out.size)⟩, by simp [intOf]; omega⟩
                · have HRN : Hid (res = none) := HRk.out hC
                  subst hsv
                  clear hst HStep HOK2 HRk
                  go_wp2_with (go_at_call 47; refine hex.mono ?_; rintro e w5 ⟨rfl, hb5⟩)
                  go_ret2
                  exact ⟨by rw [HRN.out]; rfl, HBW3.out.trans ((hbi.trans (hb5.mono hbi.size)).mono HBW3.out.size)⟩
              · have HST : Hid (setAt env r.sets q (k + 1) = setAt env r.sets q k) := by show _ = _; rw [HStep.out, if_neg hsv]
                have HJ : Hid _ := HOK2.out (fun h => absurd h hsv)
                clear HStep HOK2 HRk
                go_wp2_with fail
                refine ⟨⟨k + 1, hlk, by first | rfl | simp, by rw [HST.out], HJ.out, HBi.out⟩, by simp [intOf]; omega⟩
            · have hks : k = sn := by omega
              subst hks
              have hown := HOwn.out
              have hown2 := owns_later hown HBi.out (Nat.le_refl _)
              have hnb := hown.lt
              obtain ⟨oo, oc, rfl⟩ := owns_slice hown
              have HSn : Hid (ivals ((List.range (q + 1)).map (fun i => setAt env r.sets i k)) = ivals ((List.range q).map (fun i => setAt env r.sets i k)) ++ [.int .i64 (setAt env r.sets q k)]) := by
                show _ = _
                simp [ivals, List.range_succ]
              have HOK2 : Hid (∀ j, j < k → (r.sets.getD j st0).var < ((q + 1 : Nat) : Int) → exC (r.sets.getD j st0).val env = 0) := fun j hj h => by
                by_cases hjq : (r.sets.getD j st0).var = q
                · exact HOKi.out j hj hjq
                · exact HOK.out j hj (by omega)
              generalize setAt env r.sets q k = xv at *
              have hown3 := fun o => hown2.alloc o
              have h63 : q + 1 ≤ maxLen := by unfold maxLen; omega
              have hkb : (q + 1) * 8 ≤ 140737488355328 := by omega
              have hbase : ∀ o, w3.heap.size ≤ (wr.alloc o).heap.size := fun o => by have := hbi.size; simp; omega
              clear hown hown2 HRS2 HEx HS3 HSV2 HRC2 HCo HOKi kr0 kr1 kr2
              go_wp2_with (at_builtin; refine wpList_append_own _ rfl (.tmp 94) (.tmp 96) 40 rfl w3.heap.size 3 i0 (.int .i64 0) 1 8 Tryz.underlying40 hi hz0 hz1 hz2 rfl (by decide) _ q _ rfl (hown3 _) ⟨wr.heap.size, 0, none⟩ 1 1 [.int .i64 xv] rfl rfl (cell_one_new _ _ _) (by intro u hu; simp at hu; subst hu; rfl) h63 hkb (hbase _) ?_)
              intro v' w4 hown' hgrow _
              have hb4 : Below w3.heap.size w3 w4 := (hbi.alloc hbi.size _).grown hgrow (hbase _) (fun z hz => (hnb z hz).1)
              have HO4 : Hid (w4.ownsRow w3.heap.size 3 1 v' (q + 1) (ivals ((List.range (q + 1)).map (fun i => setAt env r.sets i k)))) := by
                show World.ownsRow _ _ _ _ _ _ _
                rw [HSn.out]
                exact hown'
              clear hown' hgrow hown3
              go_wp2
              go_roundw
              case rel => exact ⟨q + 1, hlt, by go_num, HOK2, HO4, hb4⟩
              case measure => simp [intOf]; omega
        · have hqn : q = en := by omega
          subst hqn
          have hown := HOwn.out
          rw [HBE.out] at hown
          obtain ⟨oo, oc, rfl⟩ := owns_slice hown
          have hlb : (behindL env r).length = q := by unfold behindL; rw [setTo_length, HEN.out]
          have hI : IntsV wr (.slice oo q oc) (behindL env r) := intsV_of_owns (by rw [hlb]; exact hown)
          have hbw := HBW3.out.trans (hbel.mono HBW3.out.size)
          have hco := HCo.out wr hbw _ _ hI
          have hrc := HRC2.out (fun j hj => HOK.out j (by rw [HSN.out]; exact hj) (HSV2.out j (by rw [HSN.out]; exact hj)).2)
          obtain ⟨kr0, kr1, kr2⟩ := HK3.out wr hbel
          have HBWr : Hid (Below w.heap.size w wr) := hbw
          generalize cval m (behindL env r) = cv at hco hrc
          generalize ccode m (behindL env r) = cc at hco hrc
          obtain ⟨hrc0, hrc1⟩ := hrc
          clear hown hlb hI HCo HRC2 HOK HOwn HI3 HS3 HEx HSV2 HRS2 k30 k31 k32 hbel hbw hlt hq
          by_cases hcc : cc = 0
          · have HRN : Hid (res = some cv) := hrc0 hcc
            subst hcc
            clear hrc0 hrc1
            go_wp2_with (go_at_call 69; refine hco.mono ?_; rintro e w6 ⟨rfl, hb6⟩)
            go_ret2
            exact ⟨by rw [HRN.out]; rfl, HBWr.out.trans (hb6.mono HBWr.out.size)⟩
          · have HRN : Hid (res = none) := hrc1 hcc
            clear hrc0 hrc1
            go_wp2_with (go_at_call 69; refine hco.mono ?_; rintro e w6 ⟨rfl, hb6⟩)
            go_ret2
            exact ⟨by rw [HRN.out]; rfl, HBWr.out.trans (hb6.mono HBWr.out.size)⟩
    · have hrn := HG.out (by rw [hgd]; simp [hn1])
      subst hrn hc0
      clear hgd HGd HRC
      go_wp2_with (go_at_call 47; refine hgu.mono ?_; rintro e w3 ⟨rfl, hb3⟩)
      go_ret2
      exact ⟨rfl, HBW2.out.trans (hb3.mono HBW2.out.size)⟩
  · have hrn := HG.out (by rw [hgd]; simp [hc0])
    subst hrn
    clear hgd HGd HRC
    go_wp2_with (go_at_call 47; refine hgu.mono ?_; rintro e w3 ⟨rfl, hb3⟩)
    go_ret2
    exact ⟨rfl, HBW2.out.trans (hb3.mono HBW2.out.size)⟩

set_option maxHeartbeats 1600000 in
set_option maxRecDepth 20000 in
/-- THE CONTRACT OF AfterRule. -/
theorem rafter_any (va vr : Value) (m : Mo) (code rule : Int) (w : World) (hV : ModelV w va vr m) (hz : m.rules.length ≤ 1000000000000000) :
    Calls Tryz.prog 48 #[.agg #[va, vr], .int .i64 code, .int .i64 rule] w fun e w' => e = .returned (.tuple #[.int .i64 (aftN m code rule), .int .i64 (aftC m code rule)]) ∧ Below w.heap.size w w' := by
  have hA : ∀ o, Below w.heap.size w (w.alloc o) := fun o => (Below.refl _ _).alloc (Nat.le_refl _) o
  by_cases hw : wcode m code = 0
  · by_cases hin : 0 ≤ rule ∧ rule < m.rules.length
    · obtain ⟨k, rfl⟩ : ∃ k : Nat, rule = k := ⟨rule.toNat, by omega⟩
      have h := rafter_in va vr m code k w hV hw (by omega)
      unfold aftN aftC
      rw [if_pos hw, if_pos hw, if_pos hin, if_pos hin, Int.toNat_natCast]
      exact h
    · have hvl := fun o => rvalues_any va vr m code (w.alloc o) (hV.below (hA o))
      rw [hw] at hvl
      unfold aftN aftC
      rw [if_pos hw, if_pos hw, if_neg hin, if_neg hin]
      have hii := fun w => in_any rule 0 (m.rules.length - 1) w
      rw [decide_eq_false (show ¬ (0 ≤ rule ∧ rule ≤ (m.rules.length : Int) - 1) by omega)] at hii
      obtain ⟨ao, cap, rfl⟩ := hV.1.shape
      obtain ⟨ro, rc, rfl⟩ := hV.2.shape
      generalize wvals m code = vals at hvl
      generalize m.vars.length = n at *
      generalize m.rules.length = rn at *
      clear hV hw hin
      go_enter Tryz.func48, Tryz.ntmps48
      go_wp2_with (first | (go_at_call 46; refine (hvl _).mono ?_; rintro e w1 ⟨v, rfl, hb1, hI⟩; have k11 : w1.cell? ⟨w.heap.size, 1, none⟩ = some (.slice ro rn rc) := (hb1.cell (p := ⟨w.heap.size, 1, none⟩) (by simp)).trans (by simp [go_sem])) | (go_at_call 22; refine (hii _).mono ?_; rintro e w9 ⟨rfl, rfl⟩))
      go_ret2
      exact ⟨rfl, (hA _).trans (hb1.mono (hA _).size)⟩
  · have hvl := fun o => rvalues_any va vr m code (w.alloc o) (hV.below (hA o))
    unfold aftN aftC
    rw [if_neg hw, if_neg hw]
    obtain ⟨ao, cap, rfl⟩ := hV.1.shape
    obtain ⟨ro, rc, rfl⟩ := hV.2.shape
    generalize wvals m code = vals at hvl
    generalize wcode m code = c at *
    generalize m.vars.length = n at *
    generalize m.rules.length = rn at *
    clear hV
    go_enter Tryz.func48, Tryz.ntmps48
    go_wp2_with (go_at_call 46; refine (hvl _).mono ?_; rintro e w1 ⟨v, rfl, hb1, hI⟩)
    go_ret2
    exact ⟨rfl, (hA _).trans (hb1.mono (hA _).size)⟩
end Go.Proofs.YtihmcoikgkacoaaGreatDoor

/-
  The contract of the document's own LetterOf.
-/
namespace Go.Proofs.YtihmcoikgkacoaaGreatDoor
open Go.ChangeShapes Go.WideShapes Go.ChangeAt Go.RowKit Go.Deep
open Terms Tm
theorem rowTy_owns {w : World} {base n : Nat} {v : Value} {t : TypeId} {s : Nat} {xs : List Value} (h : w.ownsRow base t s v n xs) : RowTy w v t := by
  intro a k c e
  rcases h.2 with ⟨h0, _⟩ | ⟨g, cap, cur, h1, _, h3, _⟩
  · rw [h0] at e; simp at e
  · rw [h1] at e
    injection e with e _ _
    injection e with e
    subst e
    exact ⟨cur, _, h3⟩


set_option maxHeartbeats 3200000 in
set_option maxRecDepth 20000 in
/-- THE CONTRACT OF LetterOf. -/
theorem rletter_own (va vr pv : Value) (m : Mo) (ps : List (List (Int × Int))) (code : Int) (w : World) (hlz : ps.length * 24 ≤ 140737488355328) (hV : ModelV w va vr m) (hP : TermsV w pv ps) :
    Calls Tryz.prog 23 #[.agg #[va, vr], pv, .int .i64 code] w fun e w' => ∃ v, e = .returned (.tuple #[v, .int .i64 (letC m ps code)]) ∧ Below w.heap.size w w' ∧ BoolsV w' v (letL m ps code) ∧ RowTy w' v 4 := by
  have hA : ∀ o, Below w.heap.size w (w.alloc o) := fun o => (Below.refl _ _).alloc (Nat.le_refl _) o
  have hpr := fun o => rprops_any va vr pv m ps (w.alloc o) hlz (hV.below (hA o)) (hP.below (hA o))
  have hvl := fun w' (hb : Below w.heap.size w w') => rvalues_any va vr m code w' (hV.below hb)
  obtain ⟨ao, cap, rfl⟩ := hV.1.shape
  obtain ⟨ro, rc, rfl⟩ := hV.2.shape
  obtain ⟨po, pc, rfl, hPa⟩ := hP
  by_cases hp : pcode m ps = 0
  · obtain ⟨hm, hp6⟩ := pcode_m hp
    rw [hp] at hpr
    by_cases hw : wcode m code = 0
    · have hlc : letC m ps code = 0 := by unfold letC; rw [if_pos hp, hw]
      have hll : letL m ps code = ps.map (fun p => holdsB p (valsL m.vars code)) := by unfold letL; rw [if_pos hlc]
      rw [hlc, hll]
      rw [hw, show wvals m code = valsL m.vars code by unfold wvals; rw [if_pos hw]] at hvl
      generalize valsL m.vars code = env at hvl ⊢
      have HEx : Hid (∀ w' v ev l, OpsV w' v l → IntsV w' ev env → Calls Tryz.prog 47 #[v, ev] w' fun e w2 => e = .returned (.tuple #[.int .i64 (exN l env), .int .i64 (exC l env)]) ∧ Below w'.heap.size w' w2) := fun w' v ev l h1 h2 => rex_any v ev l env w' h1 h2
      have HP : Hid (ps ≠ [] → ∃ b off, po = some ⟨b, off, none⟩ ∧ b < w.heap.size ∧ ∀ i, i < ps.length → ∃ u, w.cell? ⟨b, off + i, none⟩ = some u ∧ OpsV w u (ps.getD i [])) := hPa
      have HML : Hid (∀ k, k < ps.length → bvals ((ps.take (k + 1)).map (fun p => holdsB p env)) = bvals ((ps.take k).map (fun p => holdsB p env)) ++ [.bool (decide (exC (ps.getD k []) env = 0) && decide (exN (ps.getD k []) env = 1))]) := fun k hk => by
        rw [List.take_succ_eq_append_getElem hk, show ps[k] = ps.getD k [] by simp [List.getD_eq_getElem?_getD, hk]]
        unfold bvals
        rw [List.map_append, List.map_append]
        rfl
      obtain ⟨pn, hpn⟩ : ∃ pn, pn = ps.length := ⟨_, rfl⟩
      have HPN : Hid (pn = ps.length) := hpn
      rw [← hpn] at hpr hp6 HP HML ⊢
      generalize m.vars.length = n at *
      generalize m.rules.length = rn at *
      obtain ⟨i0, hi, hz0, hz1, hz2⟩ := info_parts infoBool
      clear hV hlc hll hPa hpn hw hm hp hlz
      go_enter Tryz.func23, Tryz.ntmps23
      go_wp2_with (first | (go_at_call 42; refine (hpr _).mono ?_; rintro e w1 ⟨rfl, hb1⟩; have hbw1 := (hA _).trans (hb1.mono (hA _).size); have k10 : w1.cell? ⟨w.heap.size, 0, none⟩ = some (.slice ao n cap) := (hb1.cell (p := ⟨w.heap.size, 0, none⟩) (by simp)).trans (by simp [go_sem]); have k11 : w1.cell? ⟨w.heap.size, 1, none⟩ = some (.slice ro rn rc) := (hb1.cell (p := ⟨w.heap.size, 1, none⟩) (by simp)).trans (by simp [go_sem])) | (go_at_call 46; refine (hvl _ hbw1).mono ?_; rintro e w3 ⟨v, rfl, hb3, hI3⟩; obtain ⟨vo, vc, rfl⟩ := hI3.shape))
      have hbw3 := hbw1.trans (hb3.mono hbw1.size)
      have HI3 : Hid (IntsV w3 (.slice vo env.length vc) env) := hI3
      have HB3 : Hid (Below w.heap.size w w3) := hbw3
      clear hpr hvl hb1 hbw1 k10 k11 hb3 hI3 hbw3
      go_loopw [10, 11] (fun out i wr => ∃ k : Nat, k ≤ pn ∧ i = .int .i64 k ∧ Hid (wr.ownsRow w3.heap.size 4 1 out k (bvals ((ps.take k).map (fun p => holdsB p env)))) ∧ Hid (Below w3.heap.size w3 wr)) (fun _ i _ => pn - (intOf i).toNat)
      case atStart => exact ⟨0, Nat.zero_le _, rfl, World.ownsRow_nil _ _ _ _, Below.refl _ _⟩
      case round =>
        obtain ⟨k, hk, rfl, HOwn, HBel⟩ := hrel
        have hbel := HBel.out
        have hbw := HB3.out.trans (hbel.mono HB3.out.size)
        by_cases hlt : k < pn
        · obtain ⟨b, off, rfl, hblt, hat⟩ := HP.out (by intro h; have := HPN.out; subst h; simp at this; omega)
          obtain ⟨u, hu, hou⟩ := hat k hlt
          have c0 := (hbel.cell (p := ⟨b, off + k, none⟩) (Nat.lt_of_lt_of_le hblt HB3.out.size)).trans ((HB3.out.cell (p := ⟨b, off + k, none⟩) hblt).trans hu)
          obtain ⟨uo, uc, rfl⟩ := hou.shape
          have hex := HEx.out wr _ _ _ (hou.below hbw) (HI3.out.below hbel)
          have HLk := (show Hid _ from HML.out k hlt)
          generalize exN (ps.getD k []) env = N at hex HLk
          generalize exC (ps.getD k []) env = C at hex HLk
          generalize (ps.getD k []).length = ul at *
          have hown := HOwn.out
          have hnb := hown.lt
          obtain ⟨oo, oc, rfl⟩ := owns_slice hown
          have h63 : k + 1 ≤ maxLen := by unfold maxLen; omega
          have hkb : (k + 1) * 1 ≤ 140737488355328 := by omega
          clear hat hu hou HEx HP HML
          by_cases hC : C = 0
          · have HEl : Hid (bvals ((ps.take (k + 1)).map (fun p => holdsB p env)) = bvals ((ps.take k).map (fun p => holdsB p env)) ++ [.bool (N == 1)]) := by
              show _ = _
              rw [HLk.out, hC]
              rfl
            subst hC
            clear HLk
            go_wp2_with (first | (go_at_call 47; refine hex.mono ?_; rintro e w4 ⟨rfl, hb4⟩; have hb34 := hbel.trans (hb4.mono hbel.size); have hown3 := fun o => (owns_later hown hb4 (Nat.le_refl _)).alloc o; have hbase : ∀ o, w3.heap.size ≤ (w4.alloc o).heap.size := (fun o => by have := hb34.size; simp; omega)) | (at_builtin; refine wpList_append_own _ rfl (.tmp 44) (.tmp 51) 61 rfl w3.heap.size 4 i0 (.bool false) 1 1 Tryz.underlying61 hi hz0 hz1 hz2 rfl (by decide) _ k _ rfl (hown3 _) ⟨w4.heap.size, 0, none⟩ 1 1 [.bool (N == 1)] rfl rfl (cell_one_new _ _ _) (by intro u hu; simp at hu; subst hu; rfl) h63 hkb (hbase _) ?_; intro v' w5 hown' hgrow _))
            have hb5 : Below w3.heap.size w3 w5 := (hb34.alloc hb34.size _).grown hgrow (hbase _) (fun z hz => (hnb z hz).1)
            have HO5 : Hid (w5.ownsRow w3.heap.size 4 1 v' (k + 1) (bvals ((ps.take (k + 1)).map (fun p => holdsB p env)))) := by
              show World.ownsRow _ _ _ _ _ _ _
              rw [HEl.out]
              exact hown'
            clear hown' hgrow hown3
            exact ⟨⟨k + 1, hlt, by first | rfl | simp, HO5.out, hb5⟩, by simp [intOf]; omega⟩
          · have HEl : Hid (bvals ((ps.take (k + 1)).map (fun p => holdsB p env)) = bvals ((ps.take k).map (fun p => holdsB p env)) ++ [.bool false]) := by
              show _ = _
              rw [HLk.out, decide_eq_false hC]
              rfl
            clear HLk
            go_wp2_with (first | (go_at_call 47; refine hex.mono ?_; rintro e w4 ⟨rfl, hb4⟩; have hb34 := hbel.trans (hb4.mono hbel.size); have hown3 := fun o => (owns_later hown hb4 (Nat.le_refl _)).alloc o; have hbase : ∀ o, w3.heap.size ≤ (w4.alloc o).heap.size := (fun o => by have := hb34.size; simp; omega)) | (at_builtin; refine wpList_append_own _ rfl (.tmp 44) (.tmp 51) 61 rfl w3.heap.size 4 i0 (.bool false) 1 1 Tryz.underlying61 hi hz0 hz1 hz2 rfl (by decide) _ k _ rfl (hown3 _) ⟨w4.heap.size, 0, none⟩ 1 1 [.bool false] rfl rfl (cell_one_new _ _ _) (by intro u hu; simp at hu; subst hu; rfl) h63 hkb (hbase _) ?_; intro v' w5 hown' hgrow _))
            have hb5 : Below w3.heap.size w3 w5 := (hb34.alloc hb34.size _).grown hgrow (hbase _) (fun z hz => (hnb z hz).1)
            have HO5 : Hid (w5.ownsRow w3.heap.size 4 1 v' (k + 1) (bvals ((ps.take (k + 1)).map (fun p => holdsB p env)))) := by
              show World.ownsRow _ _ _ _ _ _ _
              rw [HEl.out]
              exact hown'
            clear hown' hgrow hown3
            exact ⟨⟨k + 1, hlt, by first | rfl | simp, HO5.out, hb5⟩, by simp [intOf]; omega⟩
        · have hkn : k = pn := by omega
          subst hkn
          have hown := HOwn.out
          rw [List.take_of_length_le (by rw [← HPN.out]; omega)] at hown
          obtain ⟨oo, oc, rfl⟩ := owns_slice hown
          have HTy : Hid (RowTy wr (.slice oo k oc) 4) := rowTy_owns hown
          have hbo : BoolsV wr (.slice oo k oc) (ps.map (fun p => holdsB p env)) := boolsV_of_owns (by rw [show (ps.map (fun p => holdsB p env)).length = k by simp [HPN.out]]; exact hown)
          have HBO := (show Hid _ from hbo)
          clear hown hbo
          go_wp2_with fail
          go_ret2
          exact ⟨_, rfl, hbw, HBO.out, HTy.out⟩
    · have hlc : letC m ps code = wcode m code := by unfold letC; rw [if_pos hp]
      have hll : letL m ps code = [] := by unfold letL; rw [if_neg (by rw [hlc]; exact hw)]
      rw [hlc, hll]
      generalize wcode m code = c at *
      generalize wvals m code = vs at *
      generalize m.vars.length = n at *
      generalize m.rules.length = rn at *
      generalize ps.length = pn at *
      clear hV hlc hll hPa
      go_enter Tryz.func23, Tryz.ntmps23
      go_wp2_with (first | (go_at_call 42; refine (hpr _).mono ?_; rintro e w1 ⟨rfl, hb1⟩; have hbw1 := (hA _).trans (hb1.mono (hA _).size); have k10 : w1.cell? ⟨w.heap.size, 0, none⟩ = some (.slice ao n cap) := (hb1.cell (p := ⟨w.heap.size, 0, none⟩) (by simp)).trans (by simp [go_sem]); have k11 : w1.cell? ⟨w.heap.size, 1, none⟩ = some (.slice ro rn rc) := (hb1.cell (p := ⟨w.heap.size, 1, none⟩) (by simp)).trans (by simp [go_sem])) | (go_at_call 46; refine (hvl _ hbw1).mono ?_; rintro e w3 ⟨v, rfl, hb3, _⟩))
      go_ret2
      exact ⟨_, rfl, hbw1.trans (hb3.mono hbw1.size), ⟨none, 0, rfl, fun h => absurd rfl h⟩, RowTy.nil _ _⟩
  · have hlc : letC m ps code = pcode m ps := by unfold letC; rw [if_neg hp]
    have hll : letL m ps code = [] := by unfold letL; rw [if_neg (by rw [hlc]; exact hp)]
    rw [hlc, hll]
    generalize pcode m ps = c at *
    generalize m.vars.length = n at *
    generalize m.rules.length = rn at *
    generalize ps.length = pn at *
    clear hV hlc hll hPa
    go_enter Tryz.func23, Tryz.ntmps23
    go_wp2_with (go_at_call 42; refine (hpr _).mono ?_; rintro e w1 ⟨rfl, hb1⟩)
    go_ret2
    exact ⟨_, rfl, (hA _).trans (hb1.mono (hA _).size), ⟨none, 0, rfl, fun h => absurd rfl h⟩, RowTy.nil _ _⟩
theorem rletter_any (va vr pv : Value) (m : Mo) (ps : List (List (Int × Int))) (code : Int) (w : World) (hlz : ps.length * 24 ≤ 140737488355328) (hV : ModelV w va vr m) (hP : TermsV w pv ps) :
    Calls Tryz.prog 23 #[.agg #[va, vr], pv, .int .i64 code] w fun e w' => ∃ v, e = .returned (.tuple #[v, .int .i64 (letC m ps code)]) ∧ Below w.heap.size w w' ∧ BoolsV w' v (letL m ps code) :=
  (rletter_own va vr pv m ps code w hlz hV hP).mono fun _ _ ⟨v, h1, h2, h3, _⟩ => ⟨v, h1, h2, h3⟩
end Go.Proofs.YtihmcoikgkacoaaGreatDoor

/-
  The contracts of the document's own secondAt, truthAt and TruthsOf.
-/
namespace Go.Proofs.YtihmcoikgkacoaaGreatDoor
open Go.ChangeShapes Go.WideShapes Go.ChangeAt Go.RowKit Go.Deep
open Terms

theorem rsec_any (b off cap p : Nat) (l : List (Int × Int)) (w : World) (h60 : l.length ≤ 60) (hz : endsCode (l.map Prod.fst) = 0) (hp : p < l.length) (h2 : pn (l.getD p (0, 0)).1 = 2) (hat : OpsAt w b off l) :
    Calls Tryz.prog 51 #[.slice (some ⟨b, off, none⟩) l.length cap, .int .i64 (p : Int)] w fun e w' => e = .returned (.int .i64 (sec l p : Int)) ∧ w' = w := by
  obtain ⟨h1, hs⟩ := part_in hz hp
  have hp1 := h1 (by omega)
  obtain ⟨_, hc⟩ := code_zero hz
  rw [List.length_map] at hc
  obtain ⟨m, hm, hm1, hml⟩ := cnt_in (l.map Prod.fst) 1 l.length (p + 1) hc hp1
  have hks : KindsAt w b off (l.map Prod.fst) := fun i hi => by
    rw [List.length_map] at hi
    rw [(hat i hi).1]
    simp [List.getD_eq_getElem?_getD, hi]
  have hen := endOf_any b off l.length cap (p + 1) (l.map Prod.fst) w h60 (by rw [List.length_map]) (by omega) hks
  have hsec : sec l p = p + 1 + m := by unfold sec; exact endAt_ok hm
  rw [hm] at hen
  rw [hsec]
  have hpc : ((p + 1 : Nat) : Int) = (p : Int) + 1 := by omega
  simp only [endOfVal] at hen
  rw [hpc] at hen
  generalize ((p + 1 + m : Nat) : Int) = z at *
  generalize l.length = n at *
  clear hat hks hc hm hs h1 h2 hsec hpc
  go_enter Tryz.func51, Tryz.ntmps51
  go_wp2_with (go_at_call 71; refine hen.mono ?_; rintro e w1 ⟨rfl, rfl⟩)
  go_ret
  exact ⟨rfl, rfl⟩

theorem kind_ok {l : List (Int × Int)} (hz : endsCode (l.map Prod.fst) = 0) {p : Nat} (hp : p < l.length) : 1 ≤ (l.getD p (0, 0)).1 ∧ (l.getD p (0, 0)).1 ≤ 18 := by
  obtain ⟨_, hc⟩ := code_zero hz
  rw [List.length_map] at hc
  obtain ⟨m, hm, _, _⟩ := cnt_in (l.map Prod.fst) 1 l.length p hc hp
  have ha := cnt_at (ks := l.map Prod.fst) (q := p) (by rw [List.length_map]; exact hp)
  rw [hm] at ha
  have hget : (l.map Prod.fst).getD p 0 = (l.getD p (0, 0)).1 := by simp [List.getD_eq_getElem?_getD, hp]
  rw [hget] at ha
  split at ha
  · rename_i hk; simpa [okK] using hk
  · simp at ha

/-- what truthAt stands on. -/
structure TruIn (w : World) (v lv av : Value) (l : List (Int × Int)) (letter : List Bool) : Prop where
  ops : OpsV w v l
  letter : BoolsV w lv letter
  ahead : IntsV w av (aheadL l)
theorem TruIn.below {w w' : World} {v lv av : Value} {l : List (Int × Int)} {letter : List Bool} (h : TruIn w v lv av l letter) (hb : Below w.heap.size w w') : TruIn w' v lv av l letter := ⟨h.ops.below hb, h.letter.below hb, h.ahead.below hb⟩

set_option maxHeartbeats 1600000 in
set_option maxRecDepth 20000 in
theorem truthAt_look (b off n cap : Nat) (lo : Option Addr) (ln lc : Nat) (aao : Option Addr) (an ac : Nat) (kx : Int) (hk : 14 ≤ kx ∧ kx ≤ 18) (p : Nat) (hpn : p < n) (l : List (Int × Int)) (claim : Int) (w : World) (h0 : 0 ≤ claim) (h64 : claim < 64) (han : an ≤ 6)
    (c0 : w.cell? ⟨b, off + p * 2, none⟩ = some (.int .i64 kx)) (hA : an = (aheadL l).length) (hav : IntsV w (.slice aao an ac) (aheadL l)) (hpl : p < l.length) (hlk : lookB (l.getD p (0, 0)).1 = true) :
    Calls Tryz.prog 70 #[.slice (some ⟨b, off, none⟩) n cap, .int .i64 (p : Int), .slice lo ln lc, .slice aao an ac, .int .i64 claim] w fun e w' => e = .returned (.bool (bitB claim (aheadTo l p).length)) ∧ Below w.heap.size w w' := by
  have hlt := aheadTo_lt l hpl hlk
  obtain ⟨ao', ac', hsl, hai⟩ := hav
  injection hsl with e1 e2 e3
  subst e1
  obtain ⟨ab, aoff, rfl, habl, haat⟩ := hai (by intro h; rw [show aheadTo l l.length = aheadL l from rfl, h] at hlt; simp at hlt)
  have HG : Hid (∀ k, k < an → ∃ q : Nat, w.cell? ⟨ab, aoff + k, none⟩ = some (.int .i64 (q : Int)) ∧ (q = p ↔ k = (aheadTo l p).length)) := fun k hk => by
    obtain ⟨q, h1, h2, h3, h4⟩ := aheadTo_get l l.length k (by unfold aheadL at hA; omega)
    refine ⟨q, by rw [haat k (by omega)]; exact congrArg (fun z => some (Value.int .i64 z)) h1, fun e => by rw [← e]; exact h4.symm, fun e => ?_⟩
    rcases Nat.lt_trichotomy q p with h | h | h
    · have := aheadTo_lt l h h3; omega
    · exact h
    · have := aheadTo_lt l h hlk; omega
  have hia : (aheadTo l p).length < an := by unfold aheadL at hA; omega
  generalize (aheadTo l p).length = ix at *
  have e13 : ¬ kx = 13 := by omega
  have e11 : ¬ kx = 11 := by omega
  have e12 : ¬ kx = 12 := by omega
  have e10 : ¬ kx = 10 := by omega
  have e8 : ¬ kx = 8 := by omega
  have e9 : ¬ kx = 9 := by omega
  clear hk hai haat hlk hpl hlt hA e2 e3
  go_enter Tryz.func70, Tryz.ntmps70
  go_wp2_with fail
  go_loop [4, 13] (fun c i => ∃ k : Nat, k ≤ ix ∧ i = .int .i64 (k : Int) ∧ c = .int .i64 (claim / 2 ^ k)) (fun _ i => an - (intOf i).toNat)
  case atStart => exact ⟨0, Nat.zero_le _, rfl, by simp⟩
  case round =>
    obtain ⟨k, hk, rfl, rfl⟩ := hrel
    obtain ⟨q, hq, hqi⟩ := HG.out k (by omega)
    have h2 : (0 : Int) < 2 ^ k := Int.pow_pos (by decide)
    have h3 : 0 ≤ claim / 2 ^ k := Int.ediv_nonneg h0 (Int.le_of_lt h2)
    have h4 : claim / 2 ^ k < 64 := Int.lt_of_le_of_lt (Int.ediv_le_self _ h0) h64
    have HD : Hid (claim / 2 ^ (k + 1) = claim / 2 ^ k / 2) := by show _ = _; rw [Int.pow_succ]; first | exact (Int.ediv_ediv (Int.le_of_lt h2)).symm | exact (Int.ediv_ediv_of_nonneg (Int.le_of_lt h2)).symm | exact (Int.ediv_ediv_eq (Int.le_of_lt h2)).symm
    have HB : Hid (bitB claim k = decide (claim / 2 ^ k % 2 = 1)) := rfl
    generalize claim / 2 ^ k = cl at *
    have hka : k < an := by omega
    clear h2
    by_cases hqp : q = p
    · have hki := hqi.1 hqp
      have HKI : Hid (k = ix) := hki
      subst hqp
      clear hki hqi HG
      go_wp2_with fail
      go_ret
      rw [← HKI.out, HB.out]
      exact ⟨rfl, Below.refl _ _⟩
    · have hki : k ≠ ix := fun e => hqp (hqi.2 e)
      have hne : ¬ (q : Int) = p := by omega
      have hlt' : k < ix := by omega
      clear hki hqi HG hqp
      go_wp2_with fail
      exact ⟨⟨k + 1, hlt', by first | rfl | simp, by rw [HD.out]⟩, by simp [intOf]; omega⟩

set_option maxHeartbeats 1600000 in
set_option maxRecDepth 20000 in
/-- THE CONTRACT OF the document's truthAt. -/
theorem truthAt_any (l : List (Int × Int)) (letter : List Bool) (claim : Int) (hc : lcode letter.length l = 0) (h0 : 0 ≤ claim) (h64 : claim < 64) : ∀ (m p : Nat) (w : World) (v lv av : Value), l.length ≤ m + p → p < l.length → TruIn w v lv av l letter →
    Calls Tryz.prog 70 #[v, .int .i64 (p : Int), lv, av, .int .i64 claim] w fun e w' => e = .returned (.bool (tru l letter claim p)) ∧ Below w.heap.size w w' := by
  obtain ⟨hp0, hp6, hz, hlf, h6⟩ := lcode_zero hc
  obtain ⟨hne, h60⟩ := ends_ne hz
  rw [List.length_map] at h60
  intro m
  induction m with
  | zero => intro p w v lv av hm hp; omega
  | succ m ih =>
    intro p w v lv av hm hp hI
    obtain ⟨ao, cap, rfl, _, hv⟩ := id hI.ops
    obtain ⟨b, off, rfl, hbl, hat⟩ := hv (by rintro rfl; exact hne rfl)
    obtain ⟨lo, lc, rfl, hl⟩ := id hI.letter
    obtain ⟨aao, ac, rfl, ha⟩ := id hI.ahead
    obtain ⟨c0, c1⟩ := hat p hp
    have hop := lfirst_all hlf p hp
    have hko := kind_ok hz hp
    obtain ⟨hq1, hq2⟩ := part_in hz hp
    cases hb : lookB (l.getD p (0, 0)).1 with
    | true =>
      rw [tru_look hp hb]
      have hk : 14 ≤ (l.getD p (0, 0)).1 ∧ (l.getD p (0, 0)).1 ≤ 18 := by simpa [lookB] using hb
      exact truthAt_look b off l.length cap lo _ lc aao _ ac _ hk p hp l claim w h0 h64 h6 c0 rfl hI.ahead hp hb
    | false =>
      have HE : Hid (tru l letter claim p = mkB (l.getD p (0, 0)) letter (tru l letter claim (p + 1)) (tru l letter claim (sec l p))) := tru_mk hp hb (fun h => (hq2 h).1)
      have hsc := rsec_any b off cap p l
      have ihp : p + 1 < l.length → ∀ w', Below w.heap.size w w' → Calls Tryz.prog 70 #[.slice (some ⟨b, off, none⟩) l.length cap, .int .i64 ((p : Int) + 1), .slice lo letter.length lc, .slice aao (aheadL l).length ac, .int .i64 claim] w' fun e w2 => e = .returned (.bool (tru l letter claim (p + 1))) ∧ Below w'.heap.size w' w2 := fun h w' hb' => by
        have := ih (p + 1) w' _ _ _ (by omega) h (hI.below hb')
        rw [show ((p + 1 : Nat) : Int) = (p : Int) + 1 by omega] at this
        exact this
      have ihs : pn (l.getD p (0, 0)).1 = 2 → ∀ w', Below w.heap.size w w' → Calls Tryz.prog 70 #[.slice (some ⟨b, off, none⟩) l.length cap, .int .i64 (sec l p : Int), .slice lo letter.length lc, .slice aao (aheadL l).length ac, .int .i64 claim] w' fun e w2 => e = .returned (.bool (tru l letter claim (sec l p))) ∧ Below w'.heap.size w' w2 := fun h w' hb' => ih (sec l p) w' _ _ _ (by have := (hq2 h).1; omega) (hq2 h).2 (hI.below hb')
      have hss : pn (l.getD p (0, 0)).1 = 2 → ∀ w', Below w.heap.size w w' → Calls Tryz.prog 51 #[.slice (some ⟨b, off, none⟩) l.length cap, .int .i64 (p : Int)] w' fun e w2 => e = .returned (.int .i64 (sec l p : Int)) ∧ w2 = w' := fun h w' hb' => rsec_any b off cap p l w' h60 hz hp h (hat.below hb' hbl)
      generalize tru l letter claim (p + 1) = ta at *
      generalize tru l letter claim (sec l p) = tb at *
      generalize tru l letter claim p = tp at *
      generalize l.getD p (0, 0) = xy at *
      obtain ⟨kx, vx⟩ := xy
      simp only at c0 c1 hb hop hq1 hq2 ihs hss hko
      have hk8 : 8 ≤ kx := by
        simp only [lopErr] at hop
        split at hop
        · omega
        · omega
      generalize (sec l p : Int) = sp at *
      rw [HE.out]
      have hlf13 : kx = 13 → 0 ≤ vx ∧ vx < letter.length := fun e => by
        simp only [lopErr] at hop
        rw [if_neg (by omega), if_pos e] at hop
        split at hop
        · omega
        · omega
      generalize (aheadL l).length = an at *
      clear hv ha hop hI hsc ih HE
      by_cases e13 : kx = 13
      · subst e13
        obtain ⟨hv0, hv1⟩ := hlf13 rfl
        obtain ⟨vn, rfl⟩ : ∃ vn : Nat, vx = vn := ⟨vx.toNat, by omega⟩
        obtain ⟨lb, loff, rfl, hlbl, hlat⟩ := hl (by intro h; rw [h] at hv1; simp at hv1; omega)
        have hcl := hlat vn (by omega)
        rw [show mkB (13, (vn : Int)) letter ta tb = letter.getD vn false by simp [mkB]]
        generalize letter.getD vn false = x at *
        generalize letter.length = ln at *
        generalize l.length = n at *
        have hvl : vn < ln := by omega
        clear hlat hl hlf13 hv0 hv1 ihp ihs hss hq1 hq2
        go_enter Tryz.func70, Tryz.ntmps70
        go_wp2_with fail
        go_ret
        exact ⟨rfl, Below.refl _ _⟩
      · generalize hln : letter.length = ln at *
        generalize hnn : l.length = n at *
        clear hl hlf13 hat
        by_cases e11 : kx = 11
        · subst e11
          rw [show mkB (11, vx) letter ta tb = true by simp [mkB]]
          clear ihp ihs hss hq1 hq2
          go_enter Tryz.func70, Tryz.ntmps70
          go_wp2_with fail
          go_ret
          exact ⟨rfl, Below.refl _ _⟩
        · by_cases e12 : kx = 12
          · subst e12
            rw [show mkB (12, vx) letter ta tb = false by simp [mkB]]
            clear ihp ihs hss hq1 hq2
            go_enter Tryz.func70, Tryz.ntmps70
            go_wp2_with fail
            go_ret
            exact ⟨rfl, Below.refl _ _⟩
          · by_cases e10 : kx = 10
            · subst e10
              rw [show mkB (10, vx) letter ta tb = !ta by simp [mkB]]
              have hc1 := ihp (hq1 (by decide)) w (Below.refl _ _)
              clear ihp ihs hss hq1 hq2
              go_enter Tryz.func70, Tryz.ntmps70
              go_wp2_with (go_at_call 70; refine hc1.mono ?_; rintro e w1 ⟨rfl, hb1⟩)
              go_ret
              exact ⟨rfl, hb1⟩
            · by_cases e89 : kx = 8 ∨ kx = 9
              · have hpn2 : pn kx = 2 := by rcases e89 with rfl | rfl <;> rfl
                have hc1 := ihp (hq1 (by omega)) w (Below.refl _ _)
                have hc2 := ihs hpn2
                have hc3 := hss hpn2
                have HM : Hid (mkB (kx, vx) letter ta tb = if kx = 8 then (ta && tb) else (ta || tb)) := by show _ = _; rcases e89 with rfl | rfl <;> simp [mkB]
                rw [HM.out]
                clear ihp ihs hss hq1 hq2 hpn2 HM
                rcases e89 with rfl | rfl
                · cases ta <;> cases tb
                  all_goals
                    go_enter Tryz.func70, Tryz.ntmps70
                    go_wp2_with (first | (go_at_call 51; refine (hc3 _ hb1).mono ?_; rintro e w2 ⟨rfl, hw2⟩; obtain rfl := hw2.symm) | (go_at_call 70; refine hc1.mono ?_; clear hc1; rintro e w1 ⟨rfl, hb1⟩; have hk1 := (hb1.cell (p := ⟨b, off + p * 2, none⟩) hbl).trans c0; have hc4 := hc2 _ hb1) | (go_at_call 70; refine hc4.mono ?_; clear hc4; rintro e w3 ⟨rfl, hb3⟩; have hb13 := hb1.trans (hb3.mono hb1.size); have hk3 := (hb13.cell (p := ⟨b, off + p * 2, none⟩) hbl).trans c0))
                    all_goals go_ret
                    all_goals exact ⟨by first | rfl | simp, hb13⟩
                · cases ta <;> cases tb
                  all_goals
                    go_enter Tryz.func70, Tryz.ntmps70
                    go_wp2_with (first | (go_at_call 51; refine (hc3 _ hb1).mono ?_; rintro e w2 ⟨rfl, hw2⟩; obtain rfl := hw2.symm) | (go_at_call 70; refine hc1.mono ?_; clear hc1; rintro e w1 ⟨rfl, hb1⟩; have hk1 := (hb1.cell (p := ⟨b, off + p * 2, none⟩) hbl).trans c0; have hc4 := hc2 _ hb1) | (go_at_call 70; refine hc4.mono ?_; clear hc4; rintro e w3 ⟨rfl, hb3⟩; have hb13 := hb1.trans (hb3.mono hb1.size); have hk3 := (hb13.cell (p := ⟨b, off + p * 2, none⟩) hbl).trans c0))
                    all_goals go_ret
                    all_goals exact ⟨by first | rfl | simp, hb13⟩
              · exfalso
                simp [lookB] at hb
                omega
end Go.Proofs.YtihmcoikgkacoaaGreatDoor

/-
  The contract of the document's own TruthsOf.
-/
namespace Go.Proofs.YtihmcoikgkacoaaGreatDoor
open Go.ChangeShapes Go.WideShapes Go.ChangeAt Go.RowKit Go.Deep
open Terms

def truTo (l : List (Int × Int)) (letter : List Bool) (claim : Int) (k : Nat) : List Bool := (List.range k).map (tru l letter claim)
theorem truTo_succ (l : List (Int × Int)) (letter : List Bool) (claim : Int) (k : Nat) : truTo l letter claim (k + 1) = truTo l letter claim k ++ [tru l letter claim k] := by simp [truTo, List.range_succ]
theorem truTo_length (l : List (Int × Int)) (letter : List Bool) (claim : Int) (k : Nat) : (truTo l letter claim k).length = k := by simp [truTo]

set_option maxHeartbeats 1600000 in
set_option maxRecDepth 20000 in
/-- THE CONTRACT OF the document's TruthsOf. -/
theorem rtruths_any (v lv : Value) (l : List (Int × Int)) (letter : List Bool) (claim : Int) (w : World) (hV : OpsV w v l) (hL : BoolsV w lv letter) :
    Calls Tryz.prog 49 #[v, lv, .int .i64 claim] w fun e w' => ∃ v', e = .returned (.tuple #[v', .int .i64 (tcode l letter claim)]) ∧ Below w.heap.size w w' ∧ BoolsV w' v' (truL l letter claim) := by
  have hah := aheadOf_any v l letter.length w hV
  obtain ⟨oo, oc, rfl, _⟩ := id hV
  obtain ⟨lo, lc, rfl, hl⟩ := id hL
  by_cases hc : lcode letter.length l = 0
  · obtain ⟨hp0, hp6, hz, hlf, h6⟩ := lcode_zero hc
    obtain ⟨hne, h60⟩ := ends_ne hz
    rw [List.length_map] at h60
    rw [hc] at hah
    have hal : ahL letter.length l = aheadL l := by unfold ahL; rw [if_pos hc]
    rw [hal] at hah
    have hsh : (2 : Int) ^ (aheadL l).length ≤ 64 := by
      have hcase : (aheadL l).length = 0 ∨ (aheadL l).length = 1 ∨ (aheadL l).length = 2 ∨ (aheadL l).length = 3 ∨ (aheadL l).length = 4 ∨ (aheadL l).length = 5 ∨ (aheadL l).length = 6 := by omega
      rcases hcase with h | h | h | h | h | h | h <;> rw [h] <;> decide
    have HTr : Hid (ClaimNo l claim → False) ∨ Hid (ClaimNo l claim) := by
      by_cases h : ClaimNo l claim
      · exact .inr h
      · exact .inl h
    have HTa : Hid (¬ ClaimNo l claim → ∀ p w' av, p < l.length → TruIn w' (.slice oo l.length oc) (.slice lo letter.length lc) av l letter → Calls Tryz.prog 70 #[.slice oo l.length oc, .int .i64 (p : Int), .slice lo letter.length lc, av, .int .i64 claim] w' fun e w2 => e = .returned (.bool (tru l letter claim p)) ∧ Below w'.heap.size w' w2) := fun hn p w' av hp hI => by
      unfold ClaimNo at hn
      exact truthAt_any l letter claim hc (by omega) (by omega) l.length p w' _ _ _ (by omega) hp hI
    have HCl : Hid (ClaimNo l claim ↔ (claim < 0 ∨ 2 ^ (aheadL l).length ≤ claim)) := Iff.rfl
    have HV : Hid (OpsV w (.slice oo l.length oc) l) := hV
    have HL : Hid (BoolsV w (.slice lo letter.length lc) letter) := hL
    have HTC : Hid (ClaimNo l claim → tcode l letter claim = 2 ∧ truL l letter claim = []) := fun h => ⟨tcode_no hc h, by unfold truL; rw [tcode_no hc h]; rfl⟩
    have HTO : Hid (¬ ClaimNo l claim → tcode l letter claim = 0 ∧ truL l letter claim = truTo l letter claim l.length) := fun h => ⟨tcode_ok hc h, by unfold truL truTo; rw [tcode_ok hc h]; rfl⟩
    generalize tcode l letter claim = x at *
    generalize truL l letter claim = res at *
    have hin := fun w => in_any claim 0 ((2 : Int) ^ (aheadL l).length - 1) w
    obtain ⟨an, han⟩ : ∃ an, an = (aheadL l).length := ⟨_, rfl⟩
    have HAN : Hid (an = (aheadL l).length) := han
    rw [← han] at hah h6 hsh HCl hin
    obtain ⟨n, hn⟩ : ∃ n, n = l.length := ⟨_, rfl⟩
    have HN : Hid (n = l.length) := hn
    rw [← hn] at hah h60 HTa HTO HV ⊢
    generalize letter.length = ln at *
    obtain ⟨i0, hi, hz0, hz1, hz2⟩ := info_parts infoBool
    clear hV hL hl hal hc hz hne hlf han hn hp0 hp6
    go_enter Tryz.func49, Tryz.ntmps49
    go_wp2_with (go_at_call 30; refine hah.mono ?_; rintro e w1 ⟨av, rfl, hb1, ho1⟩; obtain ⟨aao, ac, rfl⟩ := owns_slice ho1)
    have HI1 : Hid (TruIn w1 (.slice oo n oc) (.slice lo ln lc) (.slice aao an ac) l letter) := ⟨HV.out.below hb1, HL.out.below hb1, by have := ho1; rw [HAN.out] at this ⊢; exact intsV_of_owns this⟩
    clear hah ho1
    go_loop [10, 11] (fun ms i => ∃ k : Nat, k ≤ an ∧ i = .int .i64 (k : Int) ∧ ms = .int .i64 (2 ^ k)) (fun _ i => an - (intOf i).toNat)
    case atStart => exact ⟨0, Nat.zero_le _, rfl, rfl⟩
    case round =>
      obtain ⟨k, hk, rfl, rfl⟩ := hrel
      by_cases hlt : k < an
      · have h2 : (2 : Int) ^ k * 2 = 2 ^ (k + 1) := (Int.pow_succ 2 k).symm
        have h3 : (2 : Int) ^ (k + 1) ≤ 64 := by
          have hcase : k = 0 ∨ k = 1 ∨ k = 2 ∨ k = 3 ∨ k = 4 ∨ k = 5 := by omega
          rcases hcase with rfl | rfl | rfl | rfl | rfl | rfl <;> decide
        have h4 : (0 : Int) < 2 ^ k := Int.pow_pos (by decide)
        have HP : Hid ((2 : Int) ^ k * 2 = 2 ^ (k + 1)) := h2
        rw [← h2] at h3
        generalize (2 : Int) ^ k = pw at *
        clear h2
        go_wp2_with fail
        exact ⟨⟨k + 1, hlt, by first | rfl | simp, by rw [HP.out]⟩, by simp [intOf]; omega⟩
      · obtain rfl : k = an := by omega
        have h4 : (0 : Int) < 2 ^ k := Int.pow_pos (by decide)
        rcases HTr with HNo | HYes
        · have hnc : ¬ (claim < 0 ∨ 2 ^ k ≤ claim) := fun h => HNo.out (HCl.out.2 h)
          obtain ⟨hx0, hrl⟩ := HTO.out (fun h => HNo.out h)
          have HRL : Hid (res = truTo l letter claim n) := hrl
          have HX0 : Hid (x = 0) := hx0
          rw [show decide (0 ≤ claim ∧ claim ≤ 2 ^ k - 1) = true by simp; omega] at hin
          have HTa2 := (show Hid _ from HTa.out (fun h => HNo.out h))
          generalize (2 : Int) ^ k = pw at *
          clear hnc hx0 hrl hlt hk HTO HTC HTa HCl HNo
          go_wp2_with (go_at_call 22; refine (hin _).mono ?_; rintro e wz ⟨rfl, hwz⟩; obtain rfl := hwz.symm)
          go_loopw [12, 13] (fun out i wr => ∃ q : Nat, q ≤ n ∧ i = .int .i64 (q : Int) ∧ Hid (wr.ownsRow w1.heap.size 4 1 out (truTo l letter claim q).length (bvals (truTo l letter claim q))) ∧ Below w1.heap.size w1 wr) (fun _ i _ => n - (intOf i).toNat)
          case atStart => exact ⟨0, Nat.zero_le _, rfl, World.ownsRow_nil _ _ _ _, Below.refl _ _⟩
          case round =>
            obtain ⟨q, hq, rfl, HOw, hbel⟩ := hrel
            have hown := HOw.out
            rw [truTo_length] at hown
            obtain ⟨ro, rc, rfl⟩ := owns_slice hown
            by_cases hlt : q < n
            · have hta := HTa2.out q wr _ hlt (HI1.out.below hbel)
              have HS : Hid (truTo l letter claim (q + 1) = truTo l letter claim q ++ [tru l letter claim q]) := truTo_succ _ _ _ _
              generalize tru l letter claim q = tv at *
              have h63 : q + 1 ≤ maxLen := by unfold maxLen; omega
              have hkb : (q + 1) * 1 ≤ 140737488355328 := by omega
              clear HOw HTa2
              go_wp2_with (first | (go_at_call 70; refine hta.mono ?_; rintro e w3 ⟨rfl, hb3⟩; have ho3 := fun o => (owns_later hown hb3 (Nat.le_refl _)).alloc o; have hb13 := hbel.trans (hb3.mono hbel.size); have hbase : ∀ o, w1.heap.size ≤ (w3.alloc o).heap.size := (fun o => by have := hb13.size; simp; omega)) | (at_builtin; refine wpList_append_own _ rfl _ _ 61 rfl w1.heap.size 4 i0 (.bool false) 1 1 Tryz.underlying61 hi hz0 hz1 hz2 rfl (by decide) _ _ _ rfl (ho3 _) ⟨_, 0, none⟩ 1 1 _ rfl rfl (cell_one_new _ _ _) (by intro u hu; simp at hu; subst hu; rfl) h63 hkb (hbase _) ?_; intro v5 w5 hown5 hgrow5 _; obtain ⟨g5, cp5, rfl⟩ := owns_more hown5))
              have hb5 : Below w1.heap.size w1 w5 := (hb13.alloc hb13.size _).grown hgrow5 (hbase _) (owns_block hown)
              refine ⟨⟨q + 1, hlt, by first | rfl | simp, ?_, hb5⟩, by simp [intOf]; omega⟩
              show World.ownsRow _ _ _ _ _ _ _
              rw [truTo_length, HS.out]
              rw [show bvals (truTo l letter claim q ++ [tv]) = bvals (truTo l letter claim q) ++ [.bool tv] by simp [bvals]]
              exact hown5
            · obtain rfl : q = n := by omega
              have HO2 : Hid (BoolsV wr (.slice ro q rc) (truTo l letter claim q)) := by
                have := HOw.out
                show BoolsV _ _ _
                exact boolsV_of_owns this
              clear HOw hown HTa2
              go_wp2_with fail
              go_ret2
              rw [HX0.out, HRL.out]
              exact ⟨_, rfl, hb1.trans (hbel.mono hb1.size), HO2.out⟩
        · have hnc : claim < 0 ∨ 2 ^ k ≤ claim := HCl.out.1 HYes.out
          obtain ⟨hx0, hrl⟩ := HTC.out HYes.out
          rw [show decide (0 ≤ claim ∧ claim ≤ 2 ^ k - 1) = false by simp; omega] at hin
          generalize (2 : Int) ^ k = pw at *
          subst hx0 hrl
          clear hnc hlt hk HTO HTC HTa HCl HYes
          go_wp2_with (go_at_call 22; refine (hin _).mono ?_; rintro e wz ⟨rfl, hwz⟩; obtain rfl := hwz.symm)
          go_ret2
          exact ⟨_, rfl, hb1, none, 0, rfl, fun h => absurd rfl h⟩
  · have HX : Hid (tcode l letter claim = lcode letter.length l ∧ truL l letter claim = []) := ⟨tcode_bad hc, by unfold truL; rw [if_neg (by rw [tcode_bad hc]; exact hc)]⟩
    rw [HX.out.1, HX.out.2]
    generalize lcode letter.length l = x at *
    generalize letter.length = ln at *
    generalize l.length = n at *
    clear hV hL hl HX
    go_enter Tryz.func49, Tryz.ntmps49
    go_wp2_with (go_at_call 30; refine hah.mono ?_; rintro e w1 ⟨av, rfl, hb1, ho1⟩; obtain ⟨aao, ac, rfl⟩ := owns_slice ho1)
    go_ret2
    exact ⟨_, rfl, hb1, none, 0, rfl, fun h => absurd rfl h⟩
end Go.Proofs.YtihmcoikgkacoaaGreatDoor

/-
  The document's own: how many claims there are, where runs begin; two lists of spots compared.
-/
namespace Go.Proofs.YtihmcoikgkacoaaGreatDoor
open Go.ChangeShapes Go.WideShapes Go.ChangeAt Go.RowKit Go.Deep
open Terms Tm

set_option maxHeartbeats 1600000 in
set_option maxRecDepth 20000 in
theorem many_any (va vr pv fv : Value) (m : Mo) (ps : List (List (Int × Int))) (l : List (Int × Int)) (w : World) (hV : TaskV w va vr pv fv m ps l) (hc : tkcode m ps l = 0) :
    Calls Tryz.prog 21 #[.agg #[va, vr, pv, fv]] w fun e w' => e = .returned (.int .i64 ((2 ^ (aheadL l).length : Nat) : Int)) ∧ Below w.heap.size w w' := by
  have hA : ∀ o, Below w.heap.size w (w.alloc o) := fun o => (Below.refl _ _).alloc (Nat.le_refl _) o
  obtain ⟨_, hl0⟩ := tk_zero hc
  have h6 := (lcode_zero hl0).2.2.2.2
  obtain ⟨ao, ac, rfl⟩ := hV.mo.1.shape
  obtain ⟨ro, rc, rfl⟩ := hV.mo.2.shape
  obtain ⟨po, pc, rfl⟩ := hV.ps.shape
  obtain ⟨fo, fc, rfl, _⟩ := id hV.fo
  have hah : Calls Tryz.prog 30 #[.slice fo l.length fc, .int .i64 (ps.length : Int)] (w.alloc (.cells #[.slice ao m.vars.length ac, .slice ro m.rules.length rc, .slice po ps.length pc, .slice fo l.length fc] 29)) fun e w' => ∃ ho hcp, e = .returned (.tuple #[.slice ho (aheadL l).length hcp, .int .i64 0]) ∧ Below (w.alloc (.cells #[.slice ao m.vars.length ac, .slice ro m.rules.length rc, .slice po ps.length pc, .slice fo l.length fc] 29)).heap.size (w.alloc (.cells #[.slice ao m.vars.length ac, .slice ro m.rules.length rc, .slice po ps.length pc, .slice fo l.length fc] 29)) w' := by
    refine (aheadOf_any _ l ps.length _ (hV.fo.below (hA _))).mono fun e w' ⟨av, h1, h2, h3⟩ => ?_
    have e1 : ahL ps.length l = aheadL l := by unfold ahL; rw [if_pos hl0]
    rw [e1] at h3
    obtain ⟨a, c, rfl⟩ := owns_slice h3
    exact ⟨a, c, by rw [h1, hl0], h2⟩
  have hpow : ∀ k : Nat, k ≤ 6 → 2 ^ k ≤ 64 := fun k hk => Nat.pow_le_pow_right (show 0 < 2 by decide) hk
  generalize (aheadL l).length = an at *
  generalize m.vars.length = vn at *
  generalize m.rules.length = rn at *
  generalize ps.length = pn at *
  generalize l.length = fn at *
  clear hV hc hl0
  go_enter Tryz.func21, Tryz.ntmps21
  go_wp2_with (first | (go_at_call 30; refine hah.mono ?_; rintro e w1 ⟨ho, hcp, rfl, hb1⟩; have hbw := (hA _).trans (hb1.mono (hA _).size)))
  go_loopw [5, 6] (fun x i wr => ∃ k n : Nat, k ≤ an ∧ i = .int .i64 k ∧ x = .int .i64 n ∧ Hid (n = 2 ^ k) ∧ wr = w1) (fun _ i _ => an - (intOf i).toNat)
  case atStart => exact ⟨0, 1, Nat.zero_le _, rfl, rfl, rfl, rfl⟩
  case round =>
    obtain ⟨k, n, hk, rfl, rfl, HN, rfl⟩ := hrel
    have hn64 : n ≤ 64 := by rw [HN.out]; exact hpow k (by omega)
    by_cases hlt : k < an
    · have HN2 : Hid (n * 2 = 2 ^ (k + 1)) := by show _ = _; rw [Nat.pow_succ, HN.out]
      clear HN
      go_wp2_with fail
      go_roundw
      case rel => exact ⟨k + 1, n * 2, by omega, by go_num, by go_num, HN2, by trivial⟩
      case measure => simp [intOf]; omega
    · obtain rfl : k = an := by omega
      go_wp2_with fail
      go_ret
      exact ⟨by rw [← HN.out]; rfl, hbw⟩

set_option maxHeartbeats 1600000 in
set_option maxRecDepth 20000 in
theorem sameSpots_true (va vb : Value) (l : List (Int × Int)) (w : World) (hl : l.length ≤ 1048576) (hA : SpV w va l) (hB : SpV w vb l) :
    Calls Tryz.prog 8 #[va, vb] w fun e w' => e = .returned (.bool true) ∧ ∃ n, w' = w.drewN n := by
  obtain ⟨ao, ca, rfl, ha⟩ := hA
  obtain ⟨bo, cb, rfl, hb⟩ := hB
  obtain ⟨n, hn⟩ : ∃ n, l.length = n := ⟨_, rfl⟩
  rw [hn] at hl ⊢
  have HA : Hid (l ≠ [] → ∃ b off, ao = some ⟨b, off, none⟩ ∧ b < w.heap.size ∧ OpsAt w b off l) := ha
  have HB : Hid (l ≠ [] → ∃ b off, bo = some ⟨b, off, none⟩ ∧ b < w.heap.size ∧ OpsAt w b off l) := hb
  have HN : Hid (l.length = n) := hn
  clear ha hb hn
  go_enter Tryz.func8, Tryz.ntmps8
  go_wp2
  go_loopw [5] (fun i wr => ∃ k : Nat, k ≤ n ∧ i = .int .i64 k ∧ ∃ q, wr = w.drewN q) (fun i _ => n - (intOf i).toNat)
  case atStart => exact ⟨0, Nat.zero_le _, rfl, 0, rfl⟩
  case round =>
    obtain ⟨k, hk, rfl, q, rfl⟩ := hrel
    by_cases hlt : k < n
    · have hne : l ≠ [] := by intro h; subst h; have := HN.out; simp at this; omega
      obtain ⟨b, off, rfl, _, hca⟩ := HA.out hne
      obtain ⟨b', off', rfl, _, hcb⟩ := HB.out hne
      obtain ⟨c1, c2⟩ := hca k (by rw [HN.out]; exact hlt)
      obtain ⟨c3, c4⟩ := hcb k (by rw [HN.out]; exact hlt)
      generalize (l.getD k (0, 0)).1 = x at c1 c3
      generalize (l.getD k (0, 0)).2 = y at c2 c4
      clear hca hcb hne
      go_wp2_with fail
      go_quiet (fail)
      go_wp2_with fail
      go_roundw
      case rel => exact ⟨k + 1, by omega, by go_num, _, rfl⟩
      case measure => simp [intOf]; omega
    · go_wp2_with fail
      go_ret
      exact ⟨rfl, q, rfl⟩

set_option maxHeartbeats 3200000 in
set_option maxRecDepth 20000 in
/-- THE CONTRACT OF BeginOf. -/
theorem beginOf_any (va vr pv fv : Value) (m : Mo) (ps : List (List (Int × Int))) (l : List (Int × Int)) (w : World) (hZ : m.vars.length * 40 ≤ 140737488355328) (hp1 : ps.length * 24 ≤ 140737488355328) (hV : TaskV w va vr pv fv m ps l) :
    Calls Tryz.prog 29 #[.agg #[va, vr, pv, fv]] w (BegPost w m ps l) := by
  have hA : ∀ o, Below w.heap.size w (w.alloc o) := fun o => (Below.refl _ _).alloc (Nat.le_refl _) o
  obtain ⟨ao, ac, rfl⟩ := hV.mo.1.shape
  obtain ⟨ro, rc, rfl⟩ := hV.mo.2.shape
  obtain ⟨po, pc, rfl⟩ := hV.ps.shape
  obtain ⟨fo, fc, rfl, _⟩ := id hV.fo
  have hp := taskFault_any _ _ _ _ m ps l _ hp1 (hV.below (hA (.cells #[.slice ao m.vars.length ac, .slice ro m.rules.length rc, .slice po ps.length pc, .slice fo l.length fc] 29)))
  unfold BegPost
  by_cases hc : tkcode m ps l = 0
  · obtain ⟨hp0, hl0⟩ := tk_zero hc
    obtain ⟨hm0, _⟩ := pcode_m hp0
    have h6 := (lcode_zero hl0).2.2.2.2
    have hne := tk_ne hc
    have hnei : (0 : Int) < (l.length : Int) := by omega
    have HFi : Hid (∀ w1, Below w.heap.size w w1 → Calls Tryz.prog 56 #[.agg #[.slice ao m.vars.length ac, .slice ro m.rules.length rc]] w1 fun e w' => e = .returned (.tuple #[.int .i64 (begC m), .int .i64 0]) ∧ Below w1.heap.size w1 w') := fun w1 h => by
      have := rfirst_any _ _ m w1 hZ (hV.mo.below h)
      rw [if_pos hm0, hm0] at this
      exact this
    have HLe : Hid (∀ w1, Below w.heap.size w w1 → Calls Tryz.prog 23 #[.agg #[.slice ao m.vars.length ac, .slice ro m.rules.length rc], .slice po ps.length pc, .int .i64 (begC m)] w1 fun e w' => ∃ lo lc, e = .returned (.tuple #[.slice lo ps.length lc, .int .i64 0]) ∧ Below w1.heap.size w1 w' ∧ Hid (BoolsV w' (.slice lo ps.length lc) (letL m ps (begC m)))) := fun w1 h => by
      refine (rletter_any _ _ _ m ps (begC m) w1 hp1 (hV.mo.below h) (hV.ps.below h)).mono fun e w' ⟨v, h1, h2, h3⟩ => ?_
      obtain ⟨t1, t2⟩ := tk_let hc (tk_beg hc)
      obtain ⟨lo, lc, rfl, hx⟩ := h3
      rw [t2] at h1
      exact ⟨lo, lc, by rw [h1, t1], h2, ⟨lo, lc, by rw [t2], hx⟩⟩
    have HTr : Hid (∀ (k : Nat) (lv : Value) (w1 : World), k < 2 ^ (aheadL l).length → Below w.heap.size w w1 → BoolsV w1 lv (letL m ps (begC m)) → Calls Tryz.prog 49 #[.slice fo l.length fc, lv, .int .i64 (k : Int)] w1 fun e w' => ∃ b off c, e = .returned (.tuple #[.slice (some ⟨b, off, none⟩) l.length c, .int .i64 0]) ∧ Below w1.heap.size w1 w' ∧ w'.cell? ⟨b, off, none⟩ = some (.bool (tru l (letL m ps (begC m)) (k : Int) 0))) := fun k lv w1 hk h hl => by
      refine (rtruths_any _ lv l (letL m ps (begC m)) (k : Int) w1 (hV.fo.below h) hl).mono fun e w' ⟨v, h1, h2, h3⟩ => ?_
      obtain ⟨t1, t2⟩ := tk_tru hc (tk_beg hc) hk
      rw [t2] at h3
      obtain ⟨lo, lc, rfl, hx⟩ := h3
      obtain ⟨b, off, rfl, _, hat⟩ := hx (by intro h0; have := congrArg List.length h0; rw [List.length_map, List.length_range, List.length_nil] at this; omega)
      have c0 := hat 0 (by simpa using hne)
      refine ⟨b, off, lc, by rw [h1, t1]; simp, h2, ?_⟩
      rw [Nat.add_zero] at c0
      rw [c0]
      simp [List.getD_eq_getElem?_getD, hne]
    have HMa : Hid (∀ w1, Below w.heap.size w w1 → Calls Tryz.prog 21 #[.agg #[.slice ao m.vars.length ac, .slice ro m.rules.length rc, .slice po ps.length pc, .slice fo l.length fc]] w1 fun e w' => e = .returned (.int .i64 ((2 ^ (aheadL l).length : Nat) : Int)) ∧ Below w1.heap.size w1 w') := fun w1 h => many_any _ _ _ _ m ps l w1 (hV.below h) hc
    have hq64 : 2 ^ (aheadL l).length ≤ 64 := Nat.pow_le_pow_right (show 0 < 2 by decide) h6
    have HNil : Hid (begTo m ps l 0 = []) := rfl
    have HSt : Hid (∀ k, begTo m ps l (k + 1) = if tru l (letL m ps (begC m)) (k : Int) 0 = true then begTo m ps l k else begTo m ps l k ++ [(begC m, (k : Int))]) := fun k => rfl
    rw [begR_ok hc]
    rw [hc] at hp ⊢
    unfold begL
    generalize begTo m ps l = bg at *
    generalize letL m ps (begC m) = lt at *
    generalize begC m = first at *
    generalize m.vars.length = vn at *
    generalize m.rules.length = rn at *
    generalize ps.length = pn at *
    generalize (aheadL l).length = an at *
    generalize 2 ^ an = N at *
    have HTru : Hid (∀ k : Nat, tru l lt (k : Int) 0 = true ∨ tru l lt (k : Int) 0 = false) := fun k => by cases tru l lt (k : Int) 0 <;> simp
    generalize hfn : l.length = fn at *
    clear hV hc hl0 hp0 hm0 h6 hfn
    have HB : Hid (∀ w1, Below (w.heap.size + 1) (w.alloc (.cells #[.slice ao vn ac, .slice ro rn rc, .slice po pn pc, .slice fo fn fc] 29)) w1 → w1.cell? ⟨w.heap.size, 0, none⟩ = some (.slice ao vn ac) ∧ w1.cell? ⟨w.heap.size, 1, none⟩ = some (.slice ro rn rc) ∧ w1.cell? ⟨w.heap.size, 2, none⟩ = some (.slice po pn pc) ∧ w1.cell? ⟨w.heap.size, 3, none⟩ = some (.slice fo fn fc)) := fun w1 h => ⟨(h.cell (p := ⟨w.heap.size, 0, none⟩) (Nat.lt_succ_self _)).trans (by simp [go_sem]), (h.cell (p := ⟨w.heap.size, 1, none⟩) (Nat.lt_succ_self _)).trans (by simp [go_sem]), (h.cell (p := ⟨w.heap.size, 2, none⟩) (Nat.lt_succ_self _)).trans (by simp [go_sem]), (h.cell (p := ⟨w.heap.size, 3, none⟩) (Nat.lt_succ_self _)).trans (by simp [go_sem])⟩
    go_enter Tryz.func29, Tryz.ntmps29
    go_wp2_with (first
      | (go_at_call 19; refine hp.mono ?_; rintro e w1 ⟨rfl, hb1⟩; have hbw1 := (hA _).trans (hb1.mono (hA _).size); have hk1 : Below (w.heap.size + 1) (w.alloc (.cells #[.slice ao vn ac, .slice ro rn rc, .slice po pn pc, .slice fo fn fc] 29)) w1 := (by simpa using hb1); have hz1 : w.heap.size + 1 ≤ w1.heap.size := (by have := hb1.size; simpa using this); obtain ⟨a0, a1, a2, a3⟩ := HB.out w1 hk1; have hfi := HFi.out w1 hbw1)
      | (go_at_call 56; refine hfi.mono ?_; rintro e w2 ⟨rfl, hb2⟩; have hbw2 := hbw1.trans (hb2.mono hbw1.size); obtain ⟨b0, b1, b2, b3⟩ := HB.out w2 (hk1.trans (hb2.mono hz1)); have hle := HLe.out w2 hbw2)
      | (go_at_call 23; refine hle.mono ?_; rintro e w3 ⟨lo, lc, rfl, hb3, HLv⟩; have hbw3 := hbw2.trans (hb3.mono hbw2.size); have hb23 := hb2.trans (hb3.mono hb2.size); obtain ⟨c0, c1, c2, c3⟩ := HB.out w3 (hk1.trans (hb23.mono hz1)); have hma := HMa.out w3 hbw3)
      | (go_at_call 21; refine hma.mono ?_; rintro e w4 ⟨rfl, hb4⟩; have hbw4 := hbw3.trans (hb4.mono hbw3.size); have hb24 := hb23.trans (hb4.mono hb23.size); have hk4 := hk1.trans (hb24.mono hz1)))
    have HLet : Hid (∀ w5, Below w4.heap.size w4 w5 → BoolsV w5 (.slice lo pn lc) lt) := fun w5 h => (HLv.out.below hb4).below h
    have HF : Hid (∀ w5, Below w4.heap.size w4 w5 → w5.cell? ⟨w.heap.size, 3, none⟩ = some (.slice fo fn fc)) := fun w5 h => (HB.out w5 (hk4.trans (h.mono (Nat.le_trans hz1 hb24.size)))).2.2.2
    clear hp hfi hle hma HFi HLe HMa HB a0 a1 a2 a3 b0 b1 b2 b3 c0 c1 c2 c3 HLv
    go_loopw [10, 11] (fun u i wr => ∃ k : Nat, k ≤ N ∧ i = .int .i64 k ∧ (∃ so sn sc, u = .slice so sn sc ∧ sn ≤ k ∧ Hid ((bg k).length = sn ∧ SpO wr w4.heap.size (.slice so sn sc) (bg k))) ∧ Below w4.heap.size w4 wr) (fun _ i _ => N - (intOf i).toNat)
    case atStart => exact ⟨0, Nat.zero_le _, rfl, ⟨none, 0, 0, rfl, Nat.le_refl _, by rw [HNil.out]; rfl, by rw [HNil.out]; exact SpO.nil _ _⟩, Below.refl _ _⟩
    case round =>
      obtain ⟨k, hk, rfl, ⟨so, sn, sc, rfl, hsn, HSp⟩, hbr3⟩ := hrel
      have hbr := hbw4.trans (hbr3.mono hbw4.size)
      have p3 := HF.out wr hbr3
      by_cases hkN : k < N
      · have htr := HTr.out k _ wr hkN hbr (HLet.out wr hbr3)
        have hst := HSt.out k
        have HSk : Hid (∀ w4', Below wr.heap.size wr w4' → SpO w4' w4.heap.size (.slice so sn sc) (bg k)) := fun w4' h => HSp.out.2.later h (Nat.le_refl _)
        have HSl : Hid ((bg k).length = sn) := HSp.out.1
        rcases HTru.out k with ht | ht
        · rw [ht] at htr hst
          rw [if_pos rfl] at hst
          have HE : Hid (bg (k + 1) = bg k) := hst
          clear hst ht HSp
          go_wp2_with (first | (go_at_call 49; refine htr.mono ?_; rintro e w5 ⟨b, off, c, rfl, hb5, d0⟩; have hbw5 := hbr3.trans (hb5.mono hbr3.size)))
          go_roundw
          case rel => exact ⟨k + 1, by omega, by go_num, ⟨so, sn, sc, rfl, by omega, by rw [HE.out]; exact HSl.out, by rw [HE.out]; exact HSk.out _ hb5⟩, hbw5⟩
          case measure => simp [intOf]; omega
        · rw [ht] at htr hst
          rw [if_neg (by simp)] at hst
          have HE : Hid (bg (k + 1) = bg k ++ [(first, (k : Int))]) := hst
          clear hst ht HSp
          go_wp2_with (first | (go_at_call 49; refine htr.mono ?_; rintro e w5 ⟨b, off, c, rfl, hb5, d0⟩; have hbw5 := hbr3.trans (hb5.mono hbr3.size); have hsp := HSk.out _ hb5; have hs5 := hbw5.size) | (at_builtin; refine push_sp first (k : Int) rfl _ _ rfl w4.heap.size sn sc so (bg k) HSl.out rfl hsp rfl (by omega) hs5 ?_; intro vo6 cap6 w6 ho6 hb6 hg6; have HO6 : Hid (SpO w6 w4.heap.size (.slice vo6 (sn + 1) cap6) (bg k ++ [(first, (k : Int))])) := ho6; have hbw6 := hbw5.trans hb6; clear ho6 hg6 hsp))
          go_roundw
          case rel => exact ⟨k + 1, by omega, by go_num, ⟨vo6, sn + 1, cap6, rfl, by omega, by rw [HE.out, List.length_append, HSl.out]; rfl, by rw [HE.out]; exact HO6.out⟩, hbw6⟩
          case measure => simp [intOf]; omega
      · obtain rfl : k = N := by omega
        have HSl : Hid ((bg k).length = sn) := HSp.out.1
        have HSk : Hid (SpO wr w.heap.size (.slice so sn sc) (bg k)) := owns_mono HSp.out.2 hbw4.size
        clear HSp
        go_wp2_with fail
        go_ret2
        refine ⟨so, sc, by rw [HSl.out]; rfl, hbr, by rw [HSl.out]; exact HSk.out⟩
  · rw [begR_bad hc]
    generalize tkcode m ps l = c at *
    generalize m.vars.length = vn at *
    generalize m.rules.length = rn at *
    generalize ps.length = pn at *
    generalize l.length = fn at *
    clear hV
    go_enter Tryz.func29, Tryz.ntmps29
    go_wp2_with (first | (go_at_call 19; refine hp.mono ?_; rintro e w1 ⟨rfl, hb1⟩; have hbw := (hA _).trans (hb1.mono (hA _).size)))
    go_ret2
    exact ⟨none, 0, rfl, hbw, SpO.nil _ _⟩
end Go.Proofs.YtihmcoikgkacoaaGreatDoor

/-
  The contract of the laws' own sameInts.
-/
namespace Go.Proofs.YtihmcoikgkacoaaGreatDoor
open Go.ChangeShapes Go.WideShapes Go.ChangeAt Go.RowKit Go.Deep
open Terms

set_option maxHeartbeats 800000 in
theorem sameInts_true (va vb : Value) (l : List Int) (w : World) (hl : l.length ≤ 140737488355328) (hA : IntsV w va l) (hB : IntsV w vb l) :
    Calls Tryz.prog 34 #[va, vb] w fun e w' => e = .returned (.bool true) ∧ ∃ n, w' = w.drewN n := by
  obtain ⟨ao, ca, rfl, ha⟩ := hA
  obtain ⟨bo, cb, rfl, hb⟩ := hB
  obtain ⟨n, hn⟩ : ∃ n, l.length = n := ⟨_, rfl⟩
  rw [hn] at hl ⊢
  have HA : Hid (l ≠ [] → ∃ b off, ao = some ⟨b, off, none⟩ ∧ b < w.heap.size ∧ IntsAt w b off l) := ha
  have HB : Hid (l ≠ [] → ∃ b off, bo = some ⟨b, off, none⟩ ∧ b < w.heap.size ∧ IntsAt w b off l) := hb
  have HN : Hid (l.length = n) := hn
  clear ha hb hn
  go_enter Tryz.func34, Tryz.ntmps34
  go_wp2
  go_loopw [5] (fun i wr => ∃ k : Nat, k ≤ n ∧ i = .int .i64 k ∧ ∃ q, wr = w.drewN q) (fun i _ => n - (intOf i).toNat)
  case atStart => exact ⟨0, Nat.zero_le _, rfl, 0, rfl⟩
  case round =>
    obtain ⟨k, hk, rfl, q, rfl⟩ := hrel
    by_cases hlt : k < n
    · have hne : l ≠ [] := by intro h; subst h; have := HN.out; simp at this; omega
      obtain ⟨b, off, rfl, _, hca⟩ := HA.out hne
      obtain ⟨b', off', rfl, _, hcb⟩ := HB.out hne
      have c1 := hca k (by rw [HN.out]; exact hlt)
      have c2 := hcb k (by rw [HN.out]; exact hlt)
      generalize l.getD k 0 = x at c1 c2
      clear hca hcb hne
      go_wp2_with fail
      go_quiet (fail)
      go_wp2_with fail
      go_roundw
      case rel => exact ⟨k + 1, by omega, by go_num, _, rfl⟩
      case measure => simp [intOf]; omega
    · go_wp2_with fail
      go_ret
      exact ⟨rfl, q, rfl⟩

theorem sameInts_b (va vb : Value) (l : List Int) (w : World) (hl : l.length ≤ 140737488355328) (hA : IntsV w va l) (hB : IntsV w vb l) :
    Calls Tryz.prog 34 #[va, vb] w fun e w' => e = .returned (.bool true) ∧ Below w.heap.size w w' :=
  (sameInts_true va vb l w hl hA hB).mono fun _ _ ⟨he, _, hw⟩ => ⟨he, hw ▸ below_drewN (Below.refl _ _) _⟩
end Go.Proofs.YtihmcoikgkacoaaGreatDoor

/-
  Explore's answer as it is held against another; the laws' sameLists and sameGraph.
-/
namespace Go.Proofs.YtihmcoikgkacoaaGreatDoor
open Go.ChangeShapes Go.WideShapes Go.ChangeAt Go.RowKit Go.Deep Go.Joins
open Terms Tm

/-- lists that are read. -/
def LsR (w : World) (v : Value) (N : List (List Int)) : Prop := ∃ ao cap, v = .slice ao N.length cap ∧ ∀ i, i < N.length → ∃ b off uo un uc, ao = some ⟨b, off, none⟩ ∧ b < w.heap.size ∧ w.cell? ⟨b, off + i, none⟩ = some (.slice uo un uc) ∧ IntsV w (.slice uo un uc) (N.getD i [])
set_option maxRecDepth 20000 in
theorem LsR.below {w w' : World} {v : Value} {N : List (List Int)} (h : LsR w v N) (hb : Below w.heap.size w w') : LsR w' v N := by
  obtain ⟨ao, cap, e, h⟩ := h
  refine ⟨ao, cap, e, fun i hi => ?_⟩
  obtain ⟨b, off, uo, un, uc, e1, e2, e3, e4⟩ := h i hi
  exact ⟨b, off, uo, un, uc, e1, Nat.lt_of_lt_of_le e2 hb.size, (hb.cell (p := ⟨b, off + i, none⟩) e2).trans e3, e4.below hb⟩
set_option maxRecDepth 20000 in
theorem LsAt.r {w : World} {base : Nat} {nv tv : Value} {N : List (List Int)} (h : LsAt w base nv tv N) : LsR w nv N := by
  obtain ⟨us, h1, h2, h3⟩ := h
  rcases h1.2 with ⟨rfl, h0⟩ | ⟨g, cap, cur, rfl, hb, hg, _⟩
  · refine ⟨none, 0, by rw [h0], fun i hi => by omega⟩
  · refine ⟨_, cap, rfl, fun i hi => ?_⟩
    obtain ⟨ao, c, e1, e2, e3, e4⟩ := h3 i hi
    refine ⟨g, 0, ao, _, c, rfl, (Array.getElem?_eq_some_iff.1 hg).1, ?_, e2⟩
    rw [Nat.zero_add, World.ownsRow.cellAt h1 i (by omega), ← e1]
    simp [List.getD_eq_getElem?_getD, show i < us.length by omega]
set_option maxRecDepth 20000 in
theorem LsR.get {w : World} {ao : Option Addr} {n c : Nat} {N : List (List Int)} (h : LsR w (.slice ao n c) N) {i : Nat} (hi : i < N.length) : ∃ b off uo un uc, ao = some ⟨b, off, none⟩ ∧ b < w.heap.size ∧ w.cell? ⟨b, off + i, none⟩ = some (.slice uo un uc) ∧ IntsV w (.slice uo un uc) (N.getD i []) := by
  obtain ⟨a, c', e, h⟩ := h
  injection e with e _ _
  subst e
  exact h i hi
set_option maxRecDepth 20000 in
theorem ex_done_one {m : Mo} {ps : List (List (Int × Int))} {l : List (Int × Int)} {K K' : Nat} (h : ExDone m ps l K) (h' : ExDone m ps l K') : K = K' := by
  rcases Nat.lt_trichotomy K K' with hlt | rfl | hlt
  · have := h'.2.2.1 K hlt; have := h.1; omega
  · rfl
  · have := h.2.2.1 K' hlt; have := h'.1; omega
set_option maxRecDepth 20000 in
theorem xpN_at {m : Mo} {ps : List (List (Int × Int))} {l : List (Int × Int)} : ∀ (K j : Nat), j < K → (xpN m ps l K).getD j [] = plIx (xpP m ps l j) (xpBh m ps l (xpAt m ps l j))
  | 0, j, h => by omega
  | K + 1, j, h => by
    rw [xpN, List.getD_eq_getElem?_getD]
    by_cases hj : j < K
    · rw [List.getElem?_append_left (by rw [xpN_len]; exact hj), ← List.getD_eq_getElem?_getD]
      exact xpN_at K j hj
    · obtain rfl : j = K := by omega
      rw [List.getElem?_append_right (by rw [xpN_len]; exact Nat.le_refl _), xpN_len]
      simp
/-- an answer, with what its lists hold. -/
def ExForm (w : World) (SS : List (Int × Int)) (NN : List (List Int)) (TT : List Int) (ini man code : Int) (e : Ending) (w' : World) : Prop := ∃ so sc no nc xo xc, e = .returned (.tuple #[.agg #[.slice so SS.length sc, .int .i64 ini, .slice no NN.length nc, .slice xo TT.length xc, .int .i64 man], .int .i64 code]) ∧ Below w.heap.size w w' ∧ Hid (SpV w' (.slice so SS.length sc) SS ∧ LsR w' (.slice no NN.length nc) NN ∧ IntsV w' (.slice xo TT.length xc) TT)
set_option maxRecDepth 20000 in
theorem ex_form (m : Mo) (ps : List (List (Int × Int))) (l : List (Int × Int)) : ∃ (SS : List (Int × Int)) (NN : List (List Int)) (TT : List Int) (ini man code : Int), SS.length ≤ 20000 ∧ NN.length ≤ 20000 ∧ (∀ i, i < NN.length → (NN.getD i []).length ≤ 262144) ∧ TT.length ≤ 20000 ∧ ∀ w e w', ExAns w m ps l e w' → ExForm w SS NN TT ini man code e w' := by
  have hnil : ∀ (w w' : World) (e : Ending) (c : Int), e = .returned (.tuple #[.agg #[.slice none 0 0, .int .i64 0, .slice none 0 0, .slice none 0 0, .int .i64 0], .int .i64 c]) → Below w.heap.size w w' → ExForm w [] [] [] 0 0 c e w' := fun w w' e c h1 h2 => ⟨none, 0, none, 0, none, 0, h1, h2, SpV.nil _, ⟨none, 0, rfl, fun i hi => by simp at hi⟩, ⟨none, 0, rfl, fun h => absurd rfl h⟩⟩
  by_cases hk : tkcode m ps l = 0
  · by_cases hd : ∃ K, ExDone m ps l K
    · obtain ⟨K, hK⟩ := hd
      refine ⟨xpP m ps l K, xpN m ps l K, xpT m ps l K, ((begL m ps l).length : Nat), ((aheadL l).length : Nat), 0, by rw [hK.1]; exact hK.2.1, by rw [xpN_len]; exact hK.2.1, fun i hi => ?_, by rw [xpT_len]; exact hK.2.1, fun w e w' h => ?_⟩
      · rw [xpN_len] at hi
        rw [xpN_at K i hi, plIx_len]
        have hm0 := (pcode_m (tk_zero hk).1).1
        have h6 := (lcode_zero (tk_zero hk).2).2.2.2.2
        have hsub := exS_le (begL m ps l) (xpBh m ps l) (Nat.le_of_lt hi)
        have hs := hK.2.2.2 _ (hsub.subset (xpAt_mem (hK.2.2.1 i hi)))
        exact behL_len hm0 hs.1 h6
      · rcases h with ⟨_, K', hK', sv, nv, tv, e1, h2, HG⟩ | ⟨_, hf, _, _⟩ | ⟨h1, _, _⟩
        · obtain rfl := ex_done_one hK hK'
          obtain ⟨so, sc, rfl⟩ := HG.out.1.shape
          obtain ⟨no, nc, hnr, _⟩ := id HG.out.2.1.r
          subst hnr
          obtain ⟨xo, xc, rfl⟩ := owns_slice HG.out.2.2
          exact ⟨so, sc, no, nc, xo, xc, e1, h2, HG.out.1.v, HG.out.2.1.r, intsV_of_owns HG.out.2.2⟩
        · exact absurd hf (ex_not_both hK)
        · exact absurd hk h1
    · refine ⟨[], [], [], 0, 0, 12, by simp, by simp, fun i hi => by simp at hi, by simp, fun w e w' h => ?_⟩
      rcases h with ⟨_, K', hK', _⟩ | ⟨_, hf, h1, h2⟩ | ⟨h1, _, _⟩
      · exact absurd ⟨K', hK'⟩ hd
      · exact hnil w w' e 12 h1 h2
      · exact absurd hk h1
  · refine ⟨[], [], [], 0, 0, tkcode m ps l, by simp, by simp, fun i hi => by simp at hi, by simp, fun w e w' h => ?_⟩
    rcases h with ⟨h1, _⟩ | ⟨h1, _⟩ | ⟨_, h1, h2⟩
    · exact absurd h1 hk
    · exact absurd h1 hk
    · exact hnil w w' e _ h1 h2

set_option maxHeartbeats 1600000 in
set_option maxRecDepth 20000 in
theorem sameLists_true (va vb : Value) (N : List (List Int)) (w : World) (hl : N.length ≤ 20000) (hls : ∀ i, i < N.length → (N.getD i []).length ≤ 262144) (hA : LsR w va N) (hB : LsR w vb N) :
    Calls Tryz.prog 33 #[va, vb] w fun e w' => e = .returned (.bool true) ∧ Below w.heap.size w w' := by
  obtain ⟨ao, ca, rfl, _⟩ := id hA
  obtain ⟨bo, cb, rfl, _⟩ := id hB
  obtain ⟨n, hn⟩ : ∃ n, N.length = n := ⟨_, rfl⟩
  have HA : Hid (LsR w (.slice ao n ca) N) := by rw [hn] at hA; exact hA
  have HB : Hid (LsR w (.slice bo n cb) N) := by rw [hn] at hB; exact hB
  have HL : Hid (∀ i, i < n → (N.getD i []).length ≤ 262144) := fun i hi => hls i (by omega)
  have HN : Hid (N.length = n) := hn
  rw [hn] at hl ⊢
  clear hA hB hls hn
  go_enter Tryz.func33, Tryz.ntmps33
  go_wp2_with fail
  go_loopw [5] (fun i wr => ∃ k : Nat, k ≤ n ∧ i = .int .i64 k ∧ Below w.heap.size w wr) (fun i _ => n - (intOf i).toNat)
  case atStart => exact ⟨0, Nat.zero_le _, rfl, Below.refl _ _⟩
  case round =>
    obtain ⟨k, hk, rfl, hbr⟩ := hrel
    by_cases hlt : k < n
    · have hlt2 : k < N.length := by rw [HN.out]; exact hlt
      obtain ⟨b, off, uo, un, uc, rfl, hb1, d1, i1⟩ := (HA.out.below hbr).get hlt2
      obtain ⟨b', off', uo', un', uc', rfl, hb2, d2, i2⟩ := (HB.out.below hbr).get hlt2
      have hbd : Below wr.heap.size wr wr.drew := (Below.refl _ _).drew
      have hsm := sameInts_true _ _ _ wr.drew (by have := HL.out k hlt; omega) (i1.below hbd) (i2.below hbd)
      have hki : (k : Int) < (n : Int) := by omega
      have hB0 : Below wr.heap.size wr wr := Below.refl _ _
      have HF : Hid (∀ w1, Below wr.heap.size wr w1 → w1.cell? ⟨b, off + k, none⟩ = some (.slice uo un uc) ∧ w1.cell? ⟨b', off' + k, none⟩ = some (.slice uo' un' uc')) := fun w1 h => ⟨(h.cell (p := ⟨b, off + k, none⟩) hb1).trans d1, (h.cell (p := ⟨b', off' + k, none⟩) hb2).trans d2⟩
      clear i1 i2 d1 d2
      go_wp2_with fail
      go_region_held3 (fun w' => w'.cell? ⟨b, off + k, none⟩ = some (.slice uo un uc) ∧ w'.cell? ⟨b', off' + k, none⟩ = some (.slice uo' un' uc'))
        (first | exact HF.out _ hb5 | exact HF.out _ hB0.drew | exact HF.out _ hB0)
        (first | (go_at_call 34; refine hsm.mono ?_; rintro e w5 ⟨rfl, q5, hq5⟩; have hb5 : Below wr.heap.size wr w5 := (by rw [hq5]; exact ⟨rfl, rfl, rfl, Nat.le_refl _, fun _ _ => rfl⟩); clear hq5))
      go_wp2_with fail
      go_roundw
      case rel => exact ⟨k + 1, by omega, by go_num, hbr.trans (hb5.mono hbr.size)⟩
      case measure => simp [intOf]; omega
    · obtain rfl : k = n := by omega
      go_wp2_with fail
      go_ret
      exact ⟨rfl, hbr⟩

set_option maxHeartbeats 1600000 in
set_option maxRecDepth 20000 in
theorem sameGraph_true (so no xo so' no' xo' : Option Addr) (sc nc xc sc' nc' xc' : Nat) (SS : List (Int × Int)) (NN : List (List Int)) (TT : List Int) (ini man : Int) (w : World) (h1 : SS.length ≤ 20000) (h2 : NN.length ≤ 20000) (h3 : ∀ i, i < NN.length → (NN.getD i []).length ≤ 262144) (h4 : TT.length ≤ 20000)
    (hA : SpV w (.slice so SS.length sc) SS ∧ LsR w (.slice no NN.length nc) NN ∧ IntsV w (.slice xo TT.length xc) TT) (hB : SpV w (.slice so' SS.length sc') SS ∧ LsR w (.slice no' NN.length nc') NN ∧ IntsV w (.slice xo' TT.length xc') TT) :
    Calls Tryz.prog 11 #[.agg #[.slice so SS.length sc, .int .i64 ini, .slice no NN.length nc, .slice xo TT.length xc, .int .i64 man], .agg #[.slice so' SS.length sc', .int .i64 ini, .slice no' NN.length nc', .slice xo' TT.length xc', .int .i64 man]] w fun e w' => e = .returned (.bool true) ∧ Below w.heap.size w w' := by
  obtain ⟨W2, hW2⟩ : ∃ W2, W2 = (w.alloc (.cells #[.slice so SS.length sc, .int .i64 ini, .slice no NN.length nc, .slice xo TT.length xc, .int .i64 man] 42)).alloc (.cells #[.slice so' SS.length sc', .int .i64 ini, .slice no' NN.length nc', .slice xo' TT.length xc', .int .i64 man] 42) := ⟨_, rfl⟩
  have hb2 : Below w.heap.size w W2 := by rw [hW2]; exact ((Below.refl _ _).alloc (Nat.le_refl _) _).alloc (by simp) _
  have hz2 : W2.heap.size = w.heap.size + 2 := by rw [hW2]; simp
  have hc : (W2.cell? ⟨w.heap.size, 0, none⟩ = some (.slice so SS.length sc) ∧ W2.cell? ⟨w.heap.size, 1, none⟩ = some (.int .i64 ini) ∧ W2.cell? ⟨w.heap.size, 2, none⟩ = some (.slice no NN.length nc) ∧ W2.cell? ⟨w.heap.size, 3, none⟩ = some (.slice xo TT.length xc) ∧ W2.cell? ⟨w.heap.size, 4, none⟩ = some (.int .i64 man)) ∧ W2.cell? ⟨w.heap.size + 1, 0, none⟩ = some (.slice so' SS.length sc') ∧ W2.cell? ⟨w.heap.size + 1, 1, none⟩ = some (.int .i64 ini) ∧ W2.cell? ⟨w.heap.size + 1, 2, none⟩ = some (.slice no' NN.length nc') ∧ W2.cell? ⟨w.heap.size + 1, 3, none⟩ = some (.slice xo' TT.length xc') ∧ W2.cell? ⟨w.heap.size + 1, 4, none⟩ = some (.int .i64 man) := by
    rw [hW2]
    refine ⟨⟨?_, ?_, ?_, ?_, ?_⟩, ?_, ?_, ?_, ?_, ?_⟩ <;> simp [go_sem]
  have HC : Hid (∀ w1, Below W2.heap.size W2 w1 → (w1.cell? ⟨w.heap.size, 0, none⟩ = some (.slice so SS.length sc) ∧ w1.cell? ⟨w.heap.size, 1, none⟩ = some (.int .i64 ini) ∧ w1.cell? ⟨w.heap.size, 2, none⟩ = some (.slice no NN.length nc) ∧ w1.cell? ⟨w.heap.size, 3, none⟩ = some (.slice xo TT.length xc) ∧ w1.cell? ⟨w.heap.size, 4, none⟩ = some (.int .i64 man)) ∧ w1.cell? ⟨w.heap.size + 1, 0, none⟩ = some (.slice so' SS.length sc') ∧ w1.cell? ⟨w.heap.size + 1, 1, none⟩ = some (.int .i64 ini) ∧ w1.cell? ⟨w.heap.size + 1, 2, none⟩ = some (.slice no' NN.length nc') ∧ w1.cell? ⟨w.heap.size + 1, 3, none⟩ = some (.slice xo' TT.length xc') ∧ w1.cell? ⟨w.heap.size + 1, 4, none⟩ = some (.int .i64 man)) := fun w1 h => by
    have k0 : w.heap.size < W2.heap.size := by omega
    have k1 : w.heap.size + 1 < W2.heap.size := by omega
    obtain ⟨⟨a0, a1, a2, a3, a4⟩, b0, b1, b2, b3, b4⟩ := hc
    exact ⟨⟨(h.cell (p := ⟨w.heap.size, 0, none⟩) k0).trans a0, (h.cell (p := ⟨w.heap.size, 1, none⟩) k0).trans a1, (h.cell (p := ⟨w.heap.size, 2, none⟩) k0).trans a2, (h.cell (p := ⟨w.heap.size, 3, none⟩) k0).trans a3, (h.cell (p := ⟨w.heap.size, 4, none⟩) k0).trans a4⟩, (h.cell (p := ⟨w.heap.size + 1, 0, none⟩) k1).trans b0, (h.cell (p := ⟨w.heap.size + 1, 1, none⟩) k1).trans b1, (h.cell (p := ⟨w.heap.size + 1, 2, none⟩) k1).trans b2, (h.cell (p := ⟨w.heap.size + 1, 3, none⟩) k1).trans b3, (h.cell (p := ⟨w.heap.size + 1, 4, none⟩) k1).trans b4⟩
  obtain ⟨A1, A2, A3⟩ := hA
  obtain ⟨B1, B2, B3⟩ := hB
  have h01 : Below w.heap.size w W2 := hb2
  have hs1 := sameSpots_true _ _ SS W2 (by omega) (A1.below hb2) (B1.below hb2)
  have HS2 : Hid (∀ w1, Below W2.heap.size W2 w1 → Calls Tryz.prog 33 #[.slice no NN.length nc, .slice no' NN.length nc'] w1 fun e w' => e = .returned (.bool true) ∧ Below w1.heap.size w1 w') := fun w1 h => sameLists_true _ _ NN w1 h2 h3 ((A2.below hb2).below h) ((B2.below hb2).below h)
  have HS3 : Hid (∀ w1, Below W2.heap.size W2 w1 → Calls Tryz.prog 34 #[.slice xo TT.length xc, .slice xo' TT.length xc'] w1 fun e w' => e = .returned (.bool true) ∧ ∃ n, w' = w1.drewN n) := fun w1 h => sameInts_true _ _ TT w1 (by omega) ((A3.below hb2).below h) ((B3.below hb2).below h)
  obtain ⟨⟨a0, a1, a2, a3, a4⟩, b0, b1, b2, b3, b4⟩ := id hc
  generalize SS.length = sn at *
  generalize NN.length = nn at *
  generalize TT.length = xn at *
  clear A1 A2 A3 B1 B2 B3 hc h3
  go_enter Tryz.func11, Tryz.ntmps11
  go_wp2_with (first
    | (go_at_call 8; rw [← hW2]; refine hs1.mono ?_; rintro e w3 ⟨rfl, q3, hq3⟩; have hb3 : Below W2.heap.size W2 w3 := (by rw [hq3]; exact ⟨rfl, rfl, rfl, Nat.le_refl _, fun _ _ => rfl⟩); clear hq3; obtain ⟨⟨a0, a1, a2, a3, a4⟩, b0, b1, b2, b3, b4⟩ := HC.out w3 hb3; have hs2 := HS2.out w3 hb3)
    | (go_at_call 33; refine hs2.mono ?_; rintro e w4 ⟨rfl, hb4'⟩; have hb4 := hb3.trans (hb4'.mono hb3.size); obtain ⟨⟨e0, e1, e2, e3, e4⟩, f0, f1, f2, f3, f4⟩ := HC.out w4 hb4; have hs3 := HS3.out w4 hb4)
    | (go_at_call 34; refine hs3.mono ?_; rintro e w5 ⟨rfl, q5, rfl⟩))
  go_ret
  have hbF := hb2.trans (hb4.mono hb2.size)
  exact ⟨by first | rfl | simp, ⟨hbF.os, hbF.tape, hbF.output, hbF.size, hbF.block⟩⟩
end Go.Proofs.YtihmcoikgkacoaaGreatDoor

/-
  The document's graph under way; spotAt.
-/
namespace Go.Proofs.YtihmcoikgkacoaaGreatDoor
open Go.ChangeShapes Go.WideShapes Go.ChangeAt Go.RowKit Go.Deep Go.Maps
open Terms Tm

/-- the place of a spot, or -1. -/
def spAt (S : List (Int × Int)) (p : Int × Int) : Int := if p ∈ S then (S.idxOf p : Nat) else -1
set_option maxRecDepth 20000 in
theorem idx_first {S : List (Int × Int)} {p : Int × Int} {k : Nat} (hk : k < S.length) (he : S.getD k (0, 0) = p) (hno : ∀ j, j < k → S.getD j (0, 0) ≠ p) : p ∈ S ∧ S.idxOf p = k := by
  induction S generalizing k with
  | nil => simp at hk
  | cons q S ih =>
    cases k with
    | zero =>
      simp at he
      subst he
      simp
    | succ k =>
      have h0 := hno 0 (by omega)
      simp at h0
      obtain ⟨h1, h2⟩ := ih (k := k) (by simpa using hk) (by simpa using he) (fun j hj => by simpa using hno (j + 1) (by omega))
      refine ⟨List.mem_cons_of_mem _ h1, ?_⟩
      rw [List.idxOf_cons, h2]
      have : (q == p) = false := by simpa using h0
      rw [this]
      rfl
set_option maxRecDepth 20000 in
theorem idx_none {S : List (Int × Int)} {p : Int × Int} (hno : ∀ j, j < S.length → S.getD j (0, 0) ≠ p) : p ∉ S := fun h => by
  obtain ⟨i, hi, e⟩ := List.getElem_of_mem h
  exact hno i hi (by rw [List.getD_eq_getElem?_getD, List.getElem?_eq_getElem hi]; exact e)

set_option maxHeartbeats 1600000 in
set_option maxRecDepth 20000 in
theorem spotAt_any (so : Option Addr) (sc : Nat) (S : List (Int × Int)) (x y : Int) (w : World) (hz : S.length ≤ 1000000) (hV : SpV w (.slice so S.length sc) S) :
    Calls Tryz.prog 31 #[.slice so S.length sc, .agg #[.int .i64 x, .int .i64 y]] w fun e w' => e = .returned (.int .i64 (spAt S (x, y))) ∧ Below w.heap.size w w' := by
  obtain ⟨n, hn⟩ : ∃ n, S.length = n := ⟨_, rfl⟩
  have HN : Hid (S.length = n) := hn
  have hbA : Below w.heap.size w (w.alloc (.cells #[.int .i64 x, .int .i64 y] 31)) := (Below.refl _ _).alloc (Nat.le_refl _) _
  have HV : Hid (SpV (w.alloc (.cells #[.int .i64 x, .int .i64 y] 31)) (.slice so n sc) S) := by have := hV.below hbA; rw [hn] at this; exact this
  have s0 : (w.alloc (.cells #[.int .i64 x, .int .i64 y] 31)).cell? ⟨w.heap.size, 0, none⟩ = some (.int .i64 x) := by simp [go_sem]
  have s1 : (w.alloc (.cells #[.int .i64 x, .int .i64 y] 31)).cell? ⟨w.heap.size, 1, none⟩ = some (.int .i64 y) := by simp [go_sem]
  rw [hn] at hz ⊢
  have HS1 : Hid (∀ k, k < S.length → S.getD k (0, 0) = (x, y) → (∀ j, j < k → S.getD j (0, 0) ≠ (x, y)) → spAt S (x, y) = (k : Int)) := fun k h1 h2 h3 => by
    obtain ⟨hm, hi⟩ := idx_first h1 h2 h3
    show _ = _
    unfold spAt
    rw [if_pos hm, hi]
  have HS2 : Hid ((∀ j, j < S.length → S.getD j (0, 0) ≠ (x, y)) → spAt S (x, y) = -1) := fun h => by
    show _ = _
    unfold spAt
    rw [if_neg (idx_none h)]
  generalize spAt S (x, y) = r at *
  generalize hWA : w.alloc (.cells #[.int .i64 x, .int .i64 y] 31) = WA at *
  clear hV hn
  go_enter Tryz.func31, Tryz.ntmps31
  go_wp2_with fail
  go_loopw [5] (fun i wr => ∃ k : Nat, k ≤ n ∧ i = .int .i64 k ∧ Hid (∀ j, j < k → S.getD j (0, 0) ≠ (x, y)) ∧ (∀ p v, WA.cell? p = some v → wr.cell? p = some v) ∧ Below WA.heap.size WA wr) (fun i _ => n - (intOf i).toNat)
  case atStart => exact ⟨0, Nat.zero_le _, rfl, fun j hj => by omega, fun _ _ h => h, Below.refl _ _⟩
  case round =>
    obtain ⟨k, hk, rfl, HM, hcl, hbr⟩ := hrel
    by_cases hlt : k < n
    · have hlt2 : k < S.length := by rw [HN.out]; exact hlt
      obtain ⟨b, off, rfl, _, c0, c1⟩ := HV.out.get hlt2
      have c0 := hcl _ _ c0
      have c1 := hcl _ _ c1
      have t0 := hcl _ _ s0
      have t1 := hcl _ _ s1
      have hki : (k : Int) < (n : Int) := by omega
      generalize hp : S.getD k (0, 0) = p at *
      obtain ⟨u, v⟩ := p
      simp only at c0 c1
      by_cases he : u = x ∧ v = y
      · obtain ⟨rfl, rfl⟩ := he
        obtain rfl : r = (k : Int) := HS1.out k hlt2 hp HM.out
        clear HM hp hcl HS1 HS2
        go_wp2_with fail
        go_region_law (fail)
        all_goals go_wp2_with fail
        all_goals go_ret
        all_goals exact ⟨rfl, hbA.trans ((hbr.drew).mono hbA.size)⟩
      · have HM2 : Hid (∀ j, j < k + 1 → S.getD j (0, 0) ≠ (x, y)) := fun j hj e => by
          by_cases h : j < k
          · exact HM.out j h e
          · obtain rfl : j = k := by omega
            rw [hp] at e
            injection e with e1 e2
            exact he ⟨e1, e2⟩
        clear HM hp HS1 HS2
        by_cases hux : u = x
        · have hvy : ¬ v = y := fun e => he ⟨hux, e⟩
          subst hux
          go_wp2_with fail
          go_region_law (fail)
          all_goals go_wp2_with fail
          all_goals go_roundw
          all_goals first
            | exact ⟨k + 1, by omega, by go_num, HM2, hcl, hbr.drew⟩
            | (simp [intOf]; omega)
        · go_wp2_with fail
          go_region_law (fail)
          all_goals go_wp2_with fail
          all_goals go_roundw
          all_goals first
            | exact ⟨k + 1, by omega, by go_num, HM2, hcl, hbr.drew⟩
            | (simp [intOf]; omega)
    · obtain rfl : k = n := by omega
      obtain rfl : r = -1 := HS2.out fun j hj => HM.out j (by rw [HN.out] at hj; exact hj)
      clear HM hcl HS1 HS2
      go_wp2_with fail
      go_ret
      exact ⟨rfl, hbA.trans (hbr.mono hbA.size)⟩
end Go.Proofs.YtihmcoikgkacoaaGreatDoor

/-
  The document's graph as it lies, under way.
-/
namespace Go.Proofs.YtihmcoikgkacoaaGreatDoor
open Go.ChangeShapes Go.WideShapes Go.ChangeAt Go.RowKit Go.Deep Go.Maps
open Terms Tm

/-- a graph in a box. -/
structure DgX (w : World) (base G : Nat) (S : List (Int × Int)) (N : List (List Int)) (T : List Int) (init many : Int) (sv nv tv : Value) : Prop where
  box : w.heap[G]? = some (grB sv nv tv init many)
  bG : base ≤ G
  sp : SpO w base sv S
  nx : LsAt w base nv tv N
  st : w.ownsRow base 3 1 tv T.length (ivals T)
set_option maxRecDepth 20000 in
theorem grB_set0 {w : World} {G : Nat} {sv nv tv : Value} {init many : Int} (hb : w.heap[G]? = some (grB sv nv tv init many)) (v : Value) : (w.setCell ⟨G, 0, none⟩ v).heap[G]? = some (grB v nv tv init many) := by
  unfold grB at *
  simp [World.setCell, Array.getElem?_modify, hb]
set_option maxRecDepth 20000 in
theorem grB_set2 {w : World} {G : Nat} {sv nv tv : Value} {init many : Int} (hb : w.heap[G]? = some (grB sv nv tv init many)) (v : Value) : (w.setCell ⟨G, 2, none⟩ v).heap[G]? = some (grB sv v tv init many) := by
  unfold grB at *
  simp [World.setCell, Array.getElem?_modify, hb]
set_option maxRecDepth 20000 in
theorem grB_set3 {w : World} {G : Nat} {sv nv tv : Value} {init many : Int} (hb : w.heap[G]? = some (grB sv nv tv init many)) (v : Value) : (w.setCell ⟨G, 3, none⟩ v).heap[G]? = some (grB sv nv v init many) := by
  unfold grB at *
  simp [World.setCell, Array.getElem?_modify, hb]
section
variable {w w' w1 w2 : World} {base G : Nat} {S S' : List (Int × Int)} {N : List (List Int)} {T : List Int} {init many : Int} {sv sv' nv tv nv' tv' : Value}
set_option maxRecDepth 20000 in
theorem DgX.ty (h : DgX w base G S N T init many sv nv tv) : TyB w G 42 := ⟨_, _, h.box⟩
set_option maxRecDepth 20000 in
theorem DgX.lt (h : DgX w base G S N T init many sv nv tv) : G < w.heap.size := h.ty.lt
set_option maxRecDepth 20000 in
theorem DgX.base_le (h : DgX w base G S N T init many sv nv tv) : base ≤ w.heap.size := by have := h.lt; have := h.bG; omega
set_option maxRecDepth 20000 in
theorem DgX.below (h : DgX w base G S N T init many sv nv tv) (hb : Below w.heap.size w w') : DgX w' base G S N T init many sv nv tv :=
  ⟨(hb.block G h.lt).trans h.box, h.bG, h.sp.later hb (Nat.le_refl _), h.nx.chg (Chg.of (Z := fun _ => False) hb) (fun _ z => z.elim), owns_later h.st hb (Nat.le_refl _)⟩
set_option maxRecDepth 20000 in
/-- spots were laid down. -/
theorem DgX.put (h : DgX w base G S N T init many sv nv tv) (hs : Chg (fun i => i = G ∨ sv.ownBlock = some i) w w') (hbx : w'.heap[G]? = some (grB sv' nv tv init many)) (hsp : SpO w' base sv' S') : DgX w' base G S' N T init many sv' nv tv := by
  have hno : ∀ i t, (i = G ∨ sv.ownBlock = some i) → TyB w i t → t = 42 ∨ t = 31 := fun i t z ht => by
    rcases z with rfl | e
    · exact .inl (ht.eq h.ty)
    · exact .inr (ht.eq (owns_ty h.sp e).2)
  have hni : ∀ i, (i = G ∨ sv.ownBlock = some i) → ¬ TyB w i 3 := fun i z ht => by
    rcases hno i _ z ht with e | e
    · exact absurd e (by decide)
    · exact absurd e (by decide)
  have hnl : ∀ i, (i = G ∨ sv.ownBlock = some i) → ¬ TyB w i 40 := fun i z ht => by
    rcases hno i _ z ht with e | e
    · exact absurd e (by decide)
    · exact absurd e (by decide)
  obtain ⟨us, n1, n2, n3⟩ := id h.nx
  exact ⟨hbx, h.bG, hsp, h.nx.chg hs fun i z => ⟨fun e => hnl i z (owns_ty n1 e).2, fun _ _ _ _ _ => hni i z⟩, owns_chg h.st hs (fun g e z => hni g z (owns_ty h.st e).2)⟩
set_option maxRecDepth 20000 in
theorem DgX.appN {us : List Value} {r : List Int} {ao : Option Addr} {c : Nat} (h : DgX w1 base G S N T init many sv nv tv) (hus : w1.ownsRow base 40 1 nv N.length us ∧ us.length = N.length ∧ ∀ i, i < N.length → ∃ ao c, us.getD i (.slice none 0 0) = .slice ao (N.getD i []).length c ∧ IntsV w1 (.slice ao (N.getD i []).length c) (N.getD i []) ∧ RowTy w1 (.slice ao (N.getD i []).length c) 3 ∧ ∀ a, ao = some a → tv.ownBlock ≠ some a.block ∧ base ≤ a.block)
    (hr : IntsV w1 (.slice ao r.length c) r) (hty : RowTy w1 (.slice ao r.length c) 3) (hap : ∀ a, ao = some a → tv.ownBlock ≠ some a.block ∧ base ≤ a.block) (hg : w1.grownBy w2 nv.ownBlock) (ho : w2.ownsRow base 40 1 nv' (N.length + 1) (us ++ [.slice ao r.length c])) : DgX (w2.setCell ⟨G, 2, none⟩ nv') base G S (N ++ [r]) T init many sv nv' tv := by
  obtain ⟨n1, n2, n3⟩ := hus
  have hc : Chg (fun i => i = G ∨ nv.ownBlock = some i) w1 (w2.setCell ⟨G, 2, none⟩ nv') := ((Chg.grown hg).weaken (fun i _ e => .inr e)).trans2 (Chg.setCell w2 _ _) (fun i _ e => .inl e)
  have hno : ∀ i t, (i = G ∨ nv.ownBlock = some i) → TyB w1 i t → t = 42 ∨ t = 40 := fun i t z ht => by
    rcases z with rfl | e
    · exact .inl (ht.eq h.ty)
    · exact .inr (ht.eq (owns_ty n1 e).2)
  have hni : ∀ i, (i = G ∨ nv.ownBlock = some i) → ¬ TyB w1 i 3 := fun i z ht => by
    rcases hno i _ z ht with e | e
    · exact absurd e (by decide)
    · exact absurd e (by decide)
  have hns : ∀ i, (i = G ∨ nv.ownBlock = some i) → ¬ TyB w1 i 31 := fun i z ht => by
    rcases hno i _ z ht with e | e
    · exact absurd e (by decide)
    · exact absurd e (by decide)
  have hbx : w2.heap[G]? = some (grB sv nv tv init many) := (hg.block G h.lt fun e => by have := h.ty.eq (owns_ty n1 e.symm).2; exact absurd this (by decide)).trans h.box
  have hG2 : TyB w2 G 42 := ⟨_, _, hbx⟩
  refine ⟨grB_set2 hbx nv', h.bG, owns_chg h.sp hc (fun g e z => hns g z (owns_ty h.sp e).2), ⟨us ++ [.slice ao r.length c], ?_, by simp [n2], fun i hi => ?_⟩, owns_chg h.st hc (fun g e z => hni g z (owns_ty h.st e).2)⟩
  · rw [List.length_append, List.length_singleton]
    exact owns_chg ho (Chg.setCell w2 _ _) (fun g e z => by
      have h1 := (owns_ty ho e).2
      have z' : g = G := z
      subst z'
      exact absurd (h1.eq hG2) (by decide))
  · have hget : ∀ (α : Type) (x y : List α) (d : α) (j : Nat), (x ++ y).getD j d = if j < x.length then x.getD j d else y.getD (j - x.length) d := fun α x y d j => by
      by_cases hj : j < x.length
      · rw [if_pos hj]; simp [List.getD_eq_getElem?_getD, List.getElem?_append_left hj]
      · rw [if_neg hj]; simp [List.getD_eq_getElem?_getD, List.getElem?_append_right (Nat.le_of_not_lt hj)]
    by_cases hlt : i < N.length
    · obtain ⟨ao', c', e1, e2, e3, e4⟩ := n3 i hlt
      have hz : ∀ a, ao' = some a → ¬ (a.block = G ∨ nv.ownBlock = some a.block) := fun a e z => hni _ z (by subst e; exact e3.ty)
      rw [hget, hget, n2, if_pos hlt, if_pos hlt]
      exact ⟨ao', c', e1, e2.chg hc hz, e3.chg hc hz, e4⟩
    · have hi2 : i = N.length := by simp at hi; omega
      have hz : ∀ a, ao = some a → ¬ (a.block = G ∨ nv.ownBlock = some a.block) := fun a e z => hni _ z (by subst e; exact hty.ty)
      rw [hget, hget, n2, if_neg hlt, if_neg hlt, hi2, Nat.sub_self]
      exact ⟨ao, c, rfl, hr.chg hc hz, hty.chg hc hz, hap⟩
set_option maxRecDepth 20000 in
theorem DgX.appT {x : Int} (h : DgX w1 base G S N T init many sv nv tv) (hg : w1.grownBy w2 tv.ownBlock) (ho : w2.ownsRow base 3 1 tv' (T.length + 1) (ivals T ++ [.int .i64 x])) (hown : tv'.ownBlock = tv.ownBlock ∨ ∃ g, tv'.ownBlock = some g ∧ w1.heap.size ≤ g) : DgX (w2.setCell ⟨G, 3, none⟩ tv') base G S N (T ++ [x]) init many sv nv tv' := by
  obtain ⟨us, n1, n2, n3⟩ := id h.nx
  have hc : Chg (fun i => i = G ∨ tv.ownBlock = some i) w1 (w2.setCell ⟨G, 3, none⟩ tv') := ((Chg.grown hg).weaken (fun i _ e => .inr e)).trans2 (Chg.setCell w2 _ _) (fun i _ e => .inl e)
  have hno : ∀ i t, (i = G ∨ tv.ownBlock = some i) → TyB w1 i t → t = 42 ∨ t = 3 := fun i t z ht => by
    rcases z with rfl | e
    · exact .inl (ht.eq h.ty)
    · exact .inr (ht.eq (owns_ty h.st e).2)
  have hnl : ∀ i, (i = G ∨ tv.ownBlock = some i) → ¬ TyB w1 i 40 := fun i z ht => by
    rcases hno i _ z ht with e | e
    · exact absurd e (by decide)
    · exact absurd e (by decide)
  have hns : ∀ i, (i = G ∨ tv.ownBlock = some i) → ¬ TyB w1 i 31 := fun i z ht => by
    rcases hno i _ z ht with e | e
    · exact absurd e (by decide)
    · exact absurd e (by decide)
  have hbx : w2.heap[G]? = some (grB sv nv tv init many) := (hg.block G h.lt fun e => by have := h.ty.eq (owns_ty h.st e.symm).2; exact absurd this (by decide)).trans h.box
  have hG2 : TyB w2 G 42 := ⟨_, _, hbx⟩
  refine ⟨grB_set3 hbx tv', h.bG, owns_chg h.sp hc (fun g e z => hns g z (owns_ty h.sp e).2), ⟨us, owns_chg n1 hc (fun g e z => hnl g z (owns_ty n1 e).2), n2, fun i hi => ?_⟩, ?_⟩
  · obtain ⟨ao', c', e1, e2, e3, e4⟩ := n3 i hi
    have hz : ∀ a, ao' = some a → ¬ (a.block = G ∨ tv.ownBlock = some a.block) := fun a e z => by
      rcases z with z | z
      · subst e
        have := e3.ty
        rw [z] at this
        exact absurd (this.eq h.ty) (by decide)
      · exact (e4 a e).1 z
    refine ⟨ao', c', e1, e2.chg hc hz, e3.chg hc hz, fun a e => ⟨fun e5 => ?_, (e4 a e).2⟩⟩
    rcases hown with h1 | ⟨g, h1, h2⟩
    · rw [h1] at e5
      exact (e4 a e).1 e5
    · rw [h1] at e5
      injection e5 with e5
      subst e
      have := e3.ty.lt
      omega
  · have e : ivals (T ++ [x]) = ivals T ++ [.int .i64 x] := by simp [ivals]
    rw [e, List.length_append, List.length_singleton]
    exact owns_chg ho (Chg.setCell w2 _ _) (fun g e z => by
      have h1 := (owns_ty ho e).2
      have z' : g = G := z
      subst z'
      exact absurd (h1.eq hG2) (by decide))
end
/-- a row of places under way, and the graph's spots. -/
structure RnB (wI wr : World) (base G : Nat) (SS : List (Int × Int)) (sv svk nv tv : Value) (init many : Int) (nx : Value) (xs : List Int) : Prop where
  box : wr.heap[G]? = some (grB svk nv tv init many)
  sp : SpO wr base svk SS
  row : wr.ownsRow wI.heap.size 3 1 nx xs.length (ivals xs)
  chg : Chg (fun i => i = G ∨ sv.ownBlock = some i) wI wr
  own : svk.ownBlock = sv.ownBlock ∨ ∃ g, svk.ownBlock = some g ∧ wI.heap.size ≤ g
section
variable {wI wr w' w2 : World} {base G : Nat} {SS S' : List (Int × Int)} {sv svk sv' nv tv nx nx' : Value} {init many : Int} {xs : List Int}
set_option maxRecDepth 20000 in
theorem RnB.ty (h : RnB wI wr base G SS sv svk nv tv init many nx xs) : TyB wr G 42 := ⟨_, _, h.box⟩
set_option maxRecDepth 20000 in
theorem RnB.below (h : RnB wI wr base G SS sv svk nv tv init many nx xs) (hb : Below wr.heap.size wr w') : RnB wI w' base G SS sv svk nv tv init many nx xs :=
  ⟨(hb.block G h.ty.lt).trans h.box, h.sp.later hb (Nat.le_refl _), owns_later h.row hb (Nat.le_refl _), h.chg.trans (Chg.of hb), h.own⟩
set_option maxRecDepth 20000 in
/-- one more spot. -/
theorem RnB.app (h : RnB wI wr base G SS sv svk nv tv init many nx xs) (hg : wr.grownBy w2 svk.ownBlock) (hs : SpO w2 base sv' S') (ho : sv'.ownBlock = svk.ownBlock ∨ ∃ g, sv'.ownBlock = some g ∧ wI.heap.size ≤ g) : (w2.cell? ⟨G, 0, none⟩ = some svk ∧ w2.frozen? ⟨G, 0, none⟩ = false) ∧ RnB wI (w2.setCell ⟨G, 0, none⟩ sv') base G S' sv sv' nv tv init many nx xs := by
  have hne : ∀ i t, TyB wr i t → t ≠ 31 → some i ≠ svk.ownBlock := fun i t ht h2 e => h2 (ht.eq (owns_ty h.sp e.symm).2)
  have hbx : w2.heap[G]? = some (grB svk nv tv init many) := (hg.block G h.ty.lt (hne G _ h.ty (by decide))).trans h.box
  have hG2 : TyB w2 G 42 := ⟨_, _, hbx⟩
  have hc : Chg (fun i => i = G ∨ svk.ownBlock = some i) wr (w2.setCell ⟨G, 0, none⟩ sv') := ((Chg.grown hg).weaken (fun i _ e => .inr e)).trans2 (Chg.setCell w2 _ _) (fun i _ e => .inl e)
  refine ⟨⟨(grB_cells hbx).1, grB_free hbx 0⟩, grB_set0 hbx sv', owns_chg hs (Chg.setCell w2 _ _) (fun g e z => ?_), owns_chg h.row hc (fun g e z => ?_), h.chg.trans2 hc (fun i hi z => ?_), ?_⟩
  · have h1 := (owns_ty hs e).2
    have z' : g = G := z
    subst z'
    exact absurd (h1.eq hG2) (by decide)
  · have h1 := (owns_ty h.row e).2
    rcases z with rfl | z
    · exact absurd (h1.eq h.ty) (by decide)
    · exact absurd (h1.eq (owns_ty h.sp z).2) (by decide)
  · rcases z with z | z
    · exact .inl z
    · rcases h.own with h1 | ⟨g, h1, h2⟩
      · exact .inr (h1 ▸ z)
      · rw [h1] at z
        injection z with z
        omega
  · rcases ho with h1 | h1
    · rw [h1]; exact h.own
    · exact .inr h1
set_option maxRecDepth 20000 in
/-- one more place. -/
theorem RnB.push {x : Int} (h : RnB wI wr base G SS sv svk nv tv init many nx xs) (hg : wr.grownBy w2 nx.ownBlock) (ho : w2.ownsRow wI.heap.size 3 1 nx' (xs.length + 1) (ivals xs ++ [.int .i64 x])) : RnB wI w2 base G SS sv svk nv tv init many nx' (xs ++ [x]) := by
  have hne : ∀ i t, TyB wr i t → t ≠ 3 → some i ≠ nx.ownBlock := fun i t ht h2 e => h2 (ht.eq (owns_ty h.row e.symm).2)
  refine ⟨(hg.block G h.ty.lt (hne G _ h.ty (by decide))).trans h.box, owns_chg h.sp (Chg.grown hg) (fun g e z => hne g _ (owns_ty h.sp e).2 (by decide) z.symm), ?_, h.chg.trans2 (Chg.grown hg) (fun i hi z => ?_), h.own⟩
  · have e : ivals (xs ++ [x]) = ivals xs ++ [.int .i64 x] := by simp [ivals]
    rw [e, List.length_append, List.length_singleton]
    exact ho
  · have := (owns_ty h.row z).1
    omega
end
end Go.Proofs.YtihmcoikgkacoaaGreatDoor

/-
  The contract of the document's own FollowsOn.
-/
namespace Go.Proofs.YtihmcoikgkacoaaGreatDoor
open Go.ChangeShapes Go.WideShapes Go.ChangeAt Go.RowKit Go.Deep
open Terms

/-- the truths as the document lays them. -/
def TruAt (w : World) (tb toff n : Nat) (h : Nat → Bool) : Prop := ∀ q, q < n → w.cell? ⟨tb, toff + q, none⟩ = some (.bool (h q))
theorem rtruths_ok (v lv : Value) (l : List (Int × Int)) (letter : List Bool) (claim : Int) (w : World) (hV : OpsV w v l) (hL : BoolsV w lv letter) (hl0 : 0 < l.length) (hc : tcode l letter claim = 0) :
    Calls Tryz.prog 49 #[v, lv, .int .i64 claim] w fun e w' => ∃ tb toff tc, e = .returned (.tuple #[.slice (some ⟨tb, toff, none⟩) l.length tc, .int .i64 0]) ∧ Below w.heap.size w w' ∧ tb < w'.heap.size ∧ Hid (TruAt w' tb toff l.length (tru l letter claim)) := by
  have htl : truL l letter claim = truTo l letter claim l.length := by unfold truL truTo; rw [hc]; rfl
  have htr := rtruths_any v lv l letter claim w hV hL
  rw [hc, htl] at htr
  refine htr.mono fun e w' ⟨v', he, hb, hv'⟩ => ?_
  obtain ⟨to', tc, rfl, ht⟩ := hv'
  rw [truTo_length] at he
  obtain ⟨tb, toff, rfl, htl, hta⟩ := ht (by intro h; have := truTo_length l letter claim l.length; rw [h] at this; simp at this; omega)
  refine ⟨tb, toff, tc, he, hb, htl, fun q hq => ?_⟩
  rw [hta q (by rw [truTo_length]; exact hq)]
  simp [truTo, List.getD_eq_getElem?_getD, hq]

set_option maxHeartbeats 3200000 in
set_option maxRecDepth 20000 in
theorem rfol_main (b off cap : Nat) (l : List (Int × Int)) (no xo : Option Addr) (nc xc ln : Nat) (now next : List Bool) (claim later : Int) (w : World) (hz : endsCode (l.map Prod.fst) = 0) (hbl : b < w.heap.size) (hat : OpsAt w b off l) (hcap : l.length ≤ cap) (hL : BoolsV w (.slice no ln nc) now) (hX : BoolsV w (.slice xo ln xc) next) (hc1 : tcode l now claim = 0) (hc2 : tcode l next later = 0) (fr : Bool) (hyes : Fol l (tru l now claim) (tru l next later) → fr = true) (hnot : ¬ Fol l (tru l now claim) (tru l next later) → fr = false) :
    Calls Tryz.prog 25 #[.slice (some ⟨b, off, none⟩) l.length cap, .slice no ln nc, .int .i64 claim, .slice xo ln xc, .int .i64 later] w fun e w' => e = .returned (.tuple #[.bool fr, .int .i64 0]) ∧ Below w.heap.size w w' := by
  obtain ⟨hne, h60⟩ := ends_ne hz
  rw [List.length_map] at h60
  have hl0 : 0 < l.length := by
    cases l with
    | nil => exact absurd rfl hne
    | cons _ _ => simp
  have hV : OpsV w (.slice (some ⟨b, off, none⟩) l.length cap) l := ⟨_, cap, rfl, ⟨hcap, fun h => by simp at h⟩, fun _ => ⟨b, off, rfl, hbl, hat⟩⟩
  have hta := rtruths_ok _ _ l now claim w hV hL hl0 hc1
  have htb := fun w1 (hb : Below w.heap.size w w1) => rtruths_ok _ _ l next later w1 (hV.below hb) (hX.below hb) hl0 hc2
  have HA : Hid (OpsAt w b off l) := hat
  have HSe : Hid (∀ w' p, Below w.heap.size w w' → p < l.length → pn (l.getD p (0, 0)).1 = 2 → Calls Tryz.prog 51 #[.slice (some ⟨b, off, none⟩) l.length cap, .int .i64 (p : Int)] w' fun e w2 => e = .returned (.int .i64 (sec l p : Int)) ∧ w2 = w') := fun w' p hb hp h2 => rsec_any b off cap p l w' h60 hz hp h2 (hat.below hb hbl)
  have HPt : Hid (∀ p, p < l.length → (1 ≤ pn (l.getD p (0, 0)).1 → p + 1 < l.length) ∧ (pn (l.getD p (0, 0)).1 = 2 → p + 1 < sec l p ∧ sec l p < l.length)) := fun p hp => part_in hz hp
  have HFol : Hid (Fol l (tru l now claim) (tru l next later) ↔ ∀ p, p < l.length → lookB (l.getD p (0, 0)).1 = true → tru l now claim p = comeB (l.getD p (0, 0)).1 (tru l now claim (p + 1)) (tru l now claim (sec l p)) (tru l next later p) (tru l next later (p + 1))) := Iff.rfl
  have HYes := (show Hid _ from hyes)
  have HNot := (show Hid _ from hnot)
  generalize Fol l (tru l now claim) (tru l next later) = FP at *
  generalize tru l now claim = tn at *
  generalize tru l next later = tx at *
  obtain ⟨n, hn⟩ : ∃ n, n = l.length := ⟨_, rfl⟩
  have HN : Hid (n = l.length) := hn
  rw [← hn] at hta htb HSe HPt HFol h60 ⊢
  obtain ⟨ALL, HALL⟩ : ∃ ALL : Nat → Prop, Hid (∀ q, ALL q ↔ ∀ p, p < q → lookB (l.getD p (0, 0)).1 = true → tn p = comeB (l.getD p (0, 0)).1 (tn (p + 1)) (tn (sec l p)) (tx p) (tx (p + 1))) := ⟨_, fun _ => Iff.rfl⟩
  clear hat hV hL hX hc1 hc2 hyes hnot hz hne hn hl0 hcap
  go_enter Tryz.func25, Tryz.ntmps25
  go_wp2_with (first | (go_at_call 49; refine hta.mono ?_; clear hta; rintro e w1 ⟨ta, aoff, tc, rfl, hb1, hal, HTa⟩; have htb1 := htb w1 hb1) | (go_at_call 49; refine htb1.mono ?_; clear htb1; rintro e w2 ⟨tb, boff, uc, rfl, hb2, hbl2, HTb⟩))
  have hb12 := hb1.trans (hb2.mono hb1.size)
  clear htb
  go_loopw [15] (fun i wr => ∃ q : Nat, q ≤ n ∧ i = .int .i64 (q : Int) ∧ Hid (ALL q) ∧ Hid (Below w2.heap.size w2 wr)) (fun i _ => n - (intOf i).toNat)
  case atStart => exact ⟨0, Nat.zero_le _, rfl, (HALL.out 0).2 fun p hp => absurd hp (Nat.not_lt_zero _), Below.refl _ _⟩
  case round =>
    obtain ⟨q, hq, rfl, HAll, HBel⟩ := hrel
    have hbel := HBel.out
    have hbw := hb12.trans (hbel.mono hb12.size)
    by_cases hlt : q < n
    · obtain ⟨c0, c1⟩ := (HA.out.below hbw hbl) q (by rw [← HN.out]; exact hlt)
      obtain ⟨hp1, hp2⟩ := HPt.out q hlt
      have hsc := HSe.out wr q hbw hlt
      have hca : ∀ j, j < n → wr.cell? ⟨ta, aoff + j, none⟩ = some (.bool (tn j)) := fun j hj => (hbel.cell (p := ⟨ta, aoff + j, none⟩) (Nat.lt_of_lt_of_le hal hb2.size)).trans ((hb2.cell (p := ⟨ta, aoff + j, none⟩) hal).trans (HTa.out j hj))
      have hcb : ∀ j, j < n → wr.cell? ⟨tb, boff + j, none⟩ = some (.bool (tx j)) := fun j hj => (hbel.cell (p := ⟨tb, boff + j, none⟩) hbl2).trans (HTb.out j hj)
      have t0 := hca q hlt
      have s0 := hcb q hlt
      have HNl0 : Hid (lookB (l.getD q (0, 0)).1 = false → ∀ p, p < q + 1 → lookB (l.getD p (0, 0)).1 = true → tn p = comeB (l.getD p (0, 0)).1 (tn (p + 1)) (tn (sec l p)) (tx p) (tx (p + 1))) := fun h p hp hk => by
        by_cases hpq : p < q
        · exact (HALL.out q).1 HAll.out p hpq hk
        · obtain rfl : p = q := by omega
          rw [h] at hk; cases hk
      have HNx0 : Hid (tn q = comeB (l.getD q (0, 0)).1 (tn (q + 1)) (tn (sec l q)) (tx q) (tx (q + 1)) → ∀ p, p < q + 1 → lookB (l.getD p (0, 0)).1 = true → tn p = comeB (l.getD p (0, 0)).1 (tn (p + 1)) (tn (sec l p)) (tx p) (tx (p + 1))) := fun h p hp hk => by
        by_cases hpq : p < q
        · exact (HALL.out q).1 HAll.out p hpq hk
        · obtain rfl : p = q := by omega
          exact h
      have HBd0 : Hid (lookB (l.getD q (0, 0)).1 = true → ¬ tn q = comeB (l.getD q (0, 0)).1 (tn (q + 1)) (tn (sec l q)) (tx q) (tx (q + 1)) → fr = false) := fun hk h => HNot.out fun hf => h (HFol.out.1 hf q hlt hk)
      generalize l.getD q (0, 0) = xy at c0 c1 hp1 hp2 hsc HBd0 HNl0 HNx0
      obtain ⟨kx, vx⟩ := xy
      simp only at c0 c1 hp1 hp2 hsc
      have HBd1 : Hid (lookB kx = true → ¬ tn q = comeB kx (tn (q + 1)) (tn (sec l q)) (tx q) (tx (q + 1)) → fr = false) := HBd0.out
      clear HBd0
      have HNl : Hid (lookB kx = false → ALL (q + 1)) := fun h => (HALL.out _).2 (HNl0.out h)
      have HNx : Hid (tn q = comeB kx (tn (q + 1)) (tn (sec l q)) (tx q) (tx (q + 1)) → ALL (q + 1)) := fun h => (HALL.out _).2 (HNx0.out h)
      clear HNl0 HNx0
      have hlk := fun w => rlook_any kx w
      cases hb : lookB kx with
      | false =>
        have HNl2 : Hid (ALL (q + 1)) := HNl.out hb
        rw [hb] at hlk
        clear hb HNl HNx HBd1 hsc hp1 hp2 hca hcb t0 s0 HPt HSe HA HFol HYes HNot HAll
        go_wp2_with (go_at_call 50; refine (hlk _).mono ?_; rintro e w3 ⟨rfl, hw3⟩; obtain rfl := hw3.symm)
        exact ⟨⟨q + 1, hlt, by first | rfl | simp, HNl2, hbel⟩, by simp [intOf]; omega⟩
      | true =>
        have HBd : Hid (¬ tn q = comeB kx (tn (q + 1)) (tn (sec l q)) (tx q) (tx (q + 1)) → fr = false) := HBd1.out hb
        rw [hb] at hlk
        have hkk : 14 ≤ kx ∧ kx ≤ 18 := by simpa [lookB] using hb
        have hpn : 1 ≤ pn kx := by
          unfold pn
          split
          · omega
          · split
            · omega
            · omega
        have hq1 := hp1 hpn
        have t1 := hca (q + 1) hq1
        have s1 := hcb (q + 1) hq1
        have hcase : kx = 14 ∨ kx = 15 ∨ kx = 16 ∨ kx = 17 ∨ kx = 18 := by omega
        clear hb HNl HBd1 hkk hpn hp1 HPt HSe HA HFol HYes HNot HAll
        rcases hcase with rfl | rfl | rfl | rfl | rfl
        · rw [show comeB 14 (tn (q + 1)) (tn (sec l q)) (tx q) (tx (q + 1)) = (tx (q + 1)) by simp [comeB]] at HNx HBd
          generalize tn q = a at *
          generalize tn (q + 1) = x at *
          generalize tx q = z at *
          generalize tx (q + 1) = nx at *
          clear hca hcb hsc hp2
          cases a <;> cases nx
          all_goals
            go_wp2_with ((go_at_call 50; refine (hlk _).mono ?_; rintro e w3 ⟨rfl, hw3⟩; obtain rfl := hw3.symm))
            first | (exact ⟨⟨q + 1, hlt, by first | rfl | simp, HNx.out (by simp), hbel⟩, by simp [intOf]; omega⟩) | (go_ret2; rw [HBd.out (by simp)]; exact ⟨rfl, hbw⟩)
        · obtain ⟨hs1, hs2⟩ := hp2 (by decide)
          have t2 := hca (sec l q) hs2
          have hsq := hsc (by decide)
          generalize hsn : sec l q = sn at *
          rw [show comeB 15 (tn (q + 1)) (tn sn) (tx q) (tx (q + 1)) = (tn sn || (tn (q + 1) && tx q)) by simp [comeB]] at HNx HBd
          generalize tn sn = y at *
          generalize tn q = a at *
          generalize tn (q + 1) = x at *
          generalize tx q = z at *
          generalize tx (q + 1) = nx at *
          clear hca hcb hsc hp2 hsn
          cases a <;> cases y <;> cases x <;> cases z
          all_goals
            go_wp2_with (first | (go_at_call 50; refine (hlk _).mono ?_; rintro e w3 ⟨rfl, hw3⟩; obtain rfl := hw3.symm) | (go_at_call 51; refine hsq.mono ?_; rintro e w3 ⟨rfl, hw3⟩; obtain rfl := hw3.symm))
            first | (exact ⟨⟨q + 1, hlt, by first | rfl | simp, HNx.out (by simp), hbel⟩, by simp [intOf]; omega⟩) | (go_ret2; rw [HBd.out (by simp)]; exact ⟨rfl, hbw⟩)
        · obtain ⟨hs1, hs2⟩ := hp2 (by decide)
          have t2 := hca (sec l q) hs2
          have hsq := hsc (by decide)
          generalize hsn : sec l q = sn at *
          rw [show comeB 16 (tn (q + 1)) (tn sn) (tx q) (tx (q + 1)) = (tn sn && (tn (q + 1) || tx q)) by simp [comeB]] at HNx HBd
          generalize tn sn = y at *
          generalize tn q = a at *
          generalize tn (q + 1) = x at *
          generalize tx q = z at *
          generalize tx (q + 1) = nx at *
          clear hca hcb hsc hp2 hsn
          cases a <;> cases y <;> cases x <;> cases z
          all_goals
            go_wp2_with (first | (go_at_call 50; refine (hlk _).mono ?_; rintro e w3 ⟨rfl, hw3⟩; obtain rfl := hw3.symm) | (go_at_call 51; refine hsq.mono ?_; rintro e w3 ⟨rfl, hw3⟩; obtain rfl := hw3.symm))
            first | (exact ⟨⟨q + 1, hlt, by first | rfl | simp, HNx.out (by simp), hbel⟩, by simp [intOf]; omega⟩) | (go_ret2; rw [HBd.out (by simp)]; exact ⟨rfl, hbw⟩)
        · rw [show comeB 17 (tn (q + 1)) (tn (sec l q)) (tx q) (tx (q + 1)) = (tn (q + 1) || tx q) by simp [comeB]] at HNx HBd
          generalize tn q = a at *
          generalize tn (q + 1) = x at *
          generalize tx q = z at *
          generalize tx (q + 1) = nx at *
          clear hca hcb hsc hp2
          cases a <;> cases x <;> cases z
          all_goals
            go_wp2_with ((go_at_call 50; refine (hlk _).mono ?_; rintro e w3 ⟨rfl, hw3⟩; obtain rfl := hw3.symm))
            first | (exact ⟨⟨q + 1, hlt, by first | rfl | simp, HNx.out (by simp), hbel⟩, by simp [intOf]; omega⟩) | (go_ret2; rw [HBd.out (by simp)]; exact ⟨rfl, hbw⟩)
        · rw [show comeB 18 (tn (q + 1)) (tn (sec l q)) (tx q) (tx (q + 1)) = (tn (q + 1) && tx q) by simp [comeB]] at HNx HBd
          generalize tn q = a at *
          generalize tn (q + 1) = x at *
          generalize tx q = z at *
          generalize tx (q + 1) = nx at *
          clear hca hcb hsc hp2
          cases a <;> cases x <;> cases z
          all_goals
            go_wp2_with ((go_at_call 50; refine (hlk _).mono ?_; rintro e w3 ⟨rfl, hw3⟩; obtain rfl := hw3.symm))
            first | (exact ⟨⟨q + 1, hlt, by first | rfl | simp, HNx.out (by simp), hbel⟩, by simp [intOf]; omega⟩) | (go_ret2; rw [HBd.out (by simp)]; exact ⟨rfl, hbw⟩)
    · obtain rfl : q = n := by omega
      have HFr : Hid (fr = true) := HYes.out (HFol.out.2 fun p hp hk => (HALL.out q).1 HAll.out p hp hk)
      clear HAll HYes HNot HFol HSe HPt
      go_wp2_with fail
      go_ret2
      rw [HFr.out]
      exact ⟨rfl, hbw⟩

theorem tcode_len {l : List (Int × Int)} {letter : List Bool} {claim : Int} (h : tcode l letter claim = 0) : lcode letter.length l = 0 := by
  by_cases h2 : lcode letter.length l = 0
  · exact h2
  · rw [tcode_bad h2] at h; exact absurd h h2

set_option maxHeartbeats 1600000 in
set_option maxRecDepth 20000 in
/-- THE CONTRACT OF the document's FollowsOn. -/
theorem rfol_any (v nv xv : Value) (l : List (Int × Int)) (now next : List Bool) (claim later : Int) (w : World) (hV : OpsV w v l) (hL : BoolsV w nv now) (hX : BoolsV w xv next) :
    Calls Tryz.prog 25 #[v, nv, .int .i64 claim, xv, .int .i64 later] w fun e w' => e = .returned (.tuple #[.bool (folR l now claim next later), .int .i64 (fcode l now claim next later)]) ∧ Below w.heap.size w w' := by
  obtain ⟨oo, oc, rfl, ⟨hcap, hn0⟩, hvv⟩ := id hV
  obtain ⟨no, nc, rfl, _⟩ := id hL
  obtain ⟨xo, xc, rfl, _⟩ := id hX
  by_cases hlen : now.length = next.length
  · have hta := rtruths_any _ _ l now claim w hV hL
    by_cases hc1 : tcode l now claim = 0
    · by_cases hc2 : tcode l next later = 0
      · have hf : fcode l now claim next later = 0 := by unfold fcode; rw [if_neg (by simpa using hlen), if_neg (by simpa using hc1), hc2]
        obtain ⟨_, _, hz, _, _⟩ := lcode_zero (tcode_len hc1)
        obtain ⟨hne, _⟩ := ends_ne hz
        obtain ⟨b, off, rfl, hbl, hat⟩ := hvv (by rintro rfl; exact hne rfl)
        rw [hf]
        rw [← hlen] at hX ⊢
        exact rfol_main b off oc l no xo nc xc now.length now next claim later w hz hbl hat hcap hL hX hc1 hc2 _ (folR_yes hf) folR_no
      · have hf : fcode l now claim next later = tcode l next later := by unfold fcode; rw [if_neg (by simpa using hlen), if_neg (by simpa using hc1)]
        rw [folR_bad (by rw [hf]; exact hc2), hf]
        have htb := fun w1 (hb : Below w.heap.size w w1) => rtruths_any _ _ l next later w1 (hV.below hb) (hX.below hb)
        rw [hc1] at hta
        rw [← hlen] at htb ⊢
        generalize tcode l next later = x at *
        generalize truL l next later = tl at *
        generalize truL l now claim = tm at *
        generalize now.length = ln at *
        generalize l.length = n at *
        clear hV hL hX hvv hn0 hcap hf hlen hc1
        go_enter Tryz.func25, Tryz.ntmps25
        go_wp2_with (first | (go_at_call 49; refine hta.mono ?_; clear hta; rintro e w1 ⟨tv, rfl, hb1, ht1⟩; obtain ⟨to', tc, rfl, _⟩ := ht1; have htb1 := htb w1 hb1) | (go_at_call 49; refine htb1.mono ?_; clear htb1; rintro e w2 ⟨uv, rfl, hb2, ht2⟩; obtain ⟨uo', uc, rfl, _⟩ := ht2))
        go_ret2
        exact ⟨rfl, hb1.trans (hb2.mono hb1.size)⟩
    · have hf : fcode l now claim next later = tcode l now claim := by unfold fcode; rw [if_neg (by simpa using hlen), if_pos hc1]
      rw [folR_bad (by rw [hf]; exact hc1), hf]
      rw [← hlen]
      generalize tcode l now claim = x at *
      generalize truL l now claim = tm at *
      generalize now.length = ln at *
      generalize l.length = n at *
      clear hV hL hX hvv hn0 hcap hf hlen
      go_enter Tryz.func25, Tryz.ntmps25
      go_wp2_with (go_at_call 49; refine hta.mono ?_; clear hta; rintro e w1 ⟨tv, rfl, hb1, ht1⟩; obtain ⟨to', tc, rfl, _⟩ := ht1)
      go_ret2
      exact ⟨rfl, hb1⟩
  · have hf : fcode l now claim next later = 1 := by unfold fcode; rw [if_pos hlen]
    rw [folR_bad (by rw [hf]; decide), hf]
    generalize l.length = n at *
    have hne : ¬ (now.length : Int) = next.length := by omega
    generalize now.length = ln at *
    generalize next.length = xn at *
    clear hV hL hX hvv hn0 hcap hf hlen
    go_enter Tryz.func25, Tryz.ntmps25
    go_wp2_with fail
    go_ret2
    exact ⟨rfl, Below.refl _ _⟩
end Go.Proofs.YtihmcoikgkacoaaGreatDoor
