/-
  Joined out of RefSplit, RefExpr, RefName, RefVars, RefEndsV, RefExpr2, RefRule, RefModel, MProps, Bools, StepLetter, StepNext, PNext, VrLead, VrConcat, VrRuns, in their order: a claim bears at most so many files.
-/
import Derived.Test.YtnicbkkkecfdpaaDoorOwns
import Derived.Test.YtnicbkkkecfdpaaDoorRefPolish
import Derived.Test.YtnicbkkkecfdpaaDoorTrees
import Derived.Test.YtnicbkkkecfdpaaDoorCodes
import Derived.Deep.RegionHeld3
import Derived.Test.YtnicbkkkecfdpaaDoorModels
import Derived.Test.YtnicbkkkecfdpaaDoorModelMem
import Derived.Test.YtnicbkkkecfdpaaDoorMem
import Derived.Test.YtnicbkkkecfdpaaDoorMCheck2
import Derived.Test.YtnicbkkkecfdpaaDoorOpsOf
import Derived.Deep.OwnRows
import Derived.Test.YtnicbkkkecfdpaaDoorStepAfter
import Derived.Test.YtnicbkkkecfdpaaDoorNexts
import Derived.Deep.AppendLies
import Derived.Test.YtnicbkkkecfdpaaDoorVrM
import Derived.Test.YtnicbkkkecfdpaaDoorVrSeek
import Derived.Test.YtnicbkkkecfdpaaDoorPMap
import Derived.Test.YtnicbkkkecfdpaaDoorIntsOf
import Derived.Lib.AppendZeros
/-
  The contracts of the document's Ops and SplitOf.
-/
namespace Go.Proofs.YtnicbkkkecfdpaaDoor
open Go.ChangeShapes Go.WideShapes Go.ChangeAt Go.RowKit Go.Deep
open Terms

set_option maxHeartbeats 800000 in
theorem refOps_any (b off n cap lo hi' : Nat) (l : List (Int × Int)) (w : World) (hn : n = l.length) (h60 : n ≤ 60) (hlo : lo ≤ hi') (hhi : hi' ≤ n) (hbB : b < w.heap.size) (hA : OpsAt w b off l) :
    Calls Tryd.prog 79 #[.slice (some ⟨b, off, none⟩) n cap, .int .i64 lo, .int .i64 hi'] w fun e w' => ∃ v', e = .returned v' ∧ Below w.heap.size w w' ∧ w'.ownsRow w.heap.size 86 2 v' (seg l lo hi').length (flat (seg l lo hi')) := by
  obtain ⟨i0, hi, hz0, hz1, hz2⟩ := info_parts infoOp
  have HA : Hid (OpsAt w b off l) := hA
  have HN : Hid (n = l.length) := hn
  clear hA hn
  go_enter Tryd.func79, Tryd.ntmps79
  go_wp2
  go_loopw [7, 8] (fun out i wr => ∃ k : Nat, lo ≤ k ∧ k ≤ hi' ∧ i = .int .i64 k ∧ wr.ownsRow w.heap.size 86 2 out (k - lo) (flat (seg l lo k)) ∧ Below w.heap.size w wr) (fun _ i _ => hi' - (intOf i).toNat)
  case atStart => exact ⟨lo, Nat.le_refl _, hlo, rfl, by rw [seg_nil, Nat.sub_self]; exact World.ownsRow_nil _ _ _ _, Below.refl _ _⟩
  case round =>
    obtain ⟨k, hk1, hk2, rfl, hown, hbel⟩ := hrel
    by_cases hlt : k < hi'
    · obtain ⟨c0, c1⟩ := (HA.out.below hbel hbB) k (by rw [← HN.out]; omega)
      have HS : Hid (seg l lo (k + 1) = seg l lo k ++ [l.getD k (0, 0)]) := seg_snoc (by rw [← HN.out]; omega) hk1 _
      generalize l.getD k (0, 0) = xy at c0 c1 HS
      obtain ⟨x, y⟩ := xy
      simp only at c0 c1
      have hsz := hbel.size
      go_wp2_with (at_builtin; refine wpList_append_own _ rfl (.tmp 15) (.tmp 20) 39 rfl w.heap.size 86 i0 (.agg #[.int .i64 0, .int .i64 0]) 2 16 Tryd.underlying39 hi hz0 hz1 hz2 rfl (by decide) _ _ _ rfl (hown.alloc _) ⟨_, 0, none⟩ 1 1 [.int .i64 x, .int .i64 y] rfl rfl (two_new _ _ _ _) ?c2 ?c3 ?c4 ?c5 ?_)
      case c2 => intro u hu; simp at hu; rcases hu with rfl | rfl <;> rfl
      case c3 => unfold maxLen; omega
      case c4 => omega
      case c5 => simp; omega
      intro v' w4 hown' hgrow _
      have hb4 : Below w.heap.size w w4 := (hbel.alloc (by omega) _).grown hgrow (by simp; omega) (fun q hq => (hown.lt q hq).1)
      have ho4 : w4.ownsRow w.heap.size 86 2 v' (k + 1 - lo) (flat (seg l lo (k + 1))) := by
        rw [HS.out, flat_append, show k + 1 - lo = k - lo + 1 by omega]; exact hown'
      clear hown' hgrow hown c0 c1
      go_wp2
      go_roundw
      case rel => exact ⟨k + 1, by omega, by omega, by go_num, ho4, hb4⟩
      case measure => simp [intOf]; omega
    · have hkh : k = hi' := by omega
      subst hkh
      clear hlt hk2
      go_wp2_with fail
      go_ret
      exact ⟨_, rfl, hbel, by rw [seg_length (by rw [← HN.out]; exact hhi)]; exact hown⟩

set_option maxHeartbeats 1000000 in
theorem splitOf_ok (b off n cap : Nat) (l : List (Int × Int)) (w : World) (hn : n = l.length) (hbB : b < w.heap.size) (hA : OpsAt w b off l) (hz : endsCode (l.map Prod.fst) = 0) :
    Calls Tryd.prog 58 #[.slice (some ⟨b, off, none⟩) n cap] w fun e w' => ∃ v', e = .returned (.tuple #[v', .int .i64 0]) ∧ Below w.heap.size w w' ∧ ∃ base, w.heap.size ≤ base ∧ TermsOwn w' base v' (splitTo l (pn ((l.map Prod.fst).getD 0 0))) := by
  have hKA : KindsAt w b off (l.map Prod.fst) := fun i hi => by
    rw [List.length_map] at hi
    rw [(hA i hi).1]
    simp [List.getD_eq_getElem?_getD, hi]
  have hK : Kinds w (.slice (some ⟨b, off, none⟩) n cap) (l.map Prod.fst) := ⟨_, cap, by rw [List.length_map, hn], fun _ => ⟨b, off, rfl, hbB, hKA⟩⟩
  have hends := endsOf_any _ _ w hK
  obtain ⟨h60, hone⟩ := code_zero hz
  have hlk : (l.map Prod.fst).length = n := by rw [List.length_map, hn]
  generalize hks : l.map Prod.fst = ks at *
  rw [hlk] at hone h60
  have HO : Hid (cnt ks 1 = .ok n) := hone
  have HA : Hid (OpsAt w b off l) := hA
  have HK : Hid (KindsAt w b off ks) := hKA
  have HN : Hid (n = l.length) := hn
  have HL : Hid (ks.length = n) := hlk
  have HKS : Hid (l.map Prod.fst = ks) := hks
  obtain ⟨hpos, hok0, hn1, _⟩ := one_head hone
  have hends2 : Calls Tryd.prog 55 #[.slice (some ⟨b, off, none⟩) n cap] w fun e w' => Below w.heap.size w w' ∧ ∃ v, e = .returned (.tuple #[v, .int .i64 0]) :=
    hends.mono fun e w' ⟨h1, _, h3⟩ => ⟨h1, by obtain ⟨v, hv, _⟩ := h3 hz; exact ⟨v, hv⟩⟩
  have hc0 := hKA 0 hpos
  rw [Nat.zero_mul, Nat.add_zero] at hc0
  clear hends hone hz hA hn hks hK hKA hlk
  obtain ⟨k, hk⟩ : ∃ k, k = ks.getD 0 0 := ⟨_, rfl⟩
  rw [← hk] at hc0 hok0 ⊢
  obtain ⟨np, hnp⟩ : ∃ np, np = pn k := ⟨_, rfl⟩
  have HP : Hid (np = pn (ks.getD 0 0)) := by rw [← hk]; exact hnp
  have hparts := fun w => partsOf_ok k w hok0
  rw [← hnp] at hparts ⊢
  have hnp2 : np ≤ 2 := by rw [hnp]; exact pn_le _
  clear hnp hok0 hpos hk
  obtain ⟨i0, hi, hz0, hz1, hz2⟩ := info_parts infoOps
  go_enter Tryd.func58, Tryd.ntmps58
  go_wp2_with (first | (go_at_call 55; refine hends2.mono ?_; rintro e w1 ⟨hb1, ev, rfl⟩; have hc1 := (hb1.cell (p := ⟨b, off, none⟩) hbB).trans hc0) | (go_at_call 78; refine (hparts _).mono ?_; rintro e w1' ⟨rfl, rfl⟩))
  go_loopw [6, 9, 10] (fun out pl c wr => ∃ i : Nat, i ≤ np ∧ c = .int .i64 i ∧ pl = .int .i64 (pos ks i : Nat) ∧ TermsOwn wr w1'.heap.size out (splitTo l i) ∧ Below w1'.heap.size w1' wr) (fun _ _ c _ => np - (intOf c).toNat)
  case atStart => exact ⟨0, Nat.zero_le _, rfl, by rw [pos_zero]; rfl, TermsOwn.nil _ _, Below.refl _ _⟩
  case round =>
    obtain ⟨i, hile, rfl, rfl, hown, hbel⟩ := hrel
    by_cases hlt : i < np
    · obtain ⟨hp1, m, hm, hm1, hp2, hp3, hp4⟩ := one_step HO.out (j := i) (by rw [← HP.out]; exact hlt)
      have hbw := hb1.trans (hbel.mono hb1.size)
      have hend := endOf_any b off n cap (pos ks i) ks wr h60 HL.out (by omega) (HK.out.below hbw hbB)
      rw [hm] at hend
      simp only [endOfVal] at hend
      rw [← hp2] at hend
      have hsz0 := hbw.size
      have hops := refOps_any b off n cap (pos ks i) (pos ks (i + 1)) l wr HN.out h60 (by omega) hp4 (by omega) (HA.out.below hbw hbB)
      have hpi : pos ks i ≤ pos ks (i + 1) := by omega
      have HS : Hid (splitTo l (i + 1) = splitTo l i ++ [seg l (pos ks i) (pos ks (i + 1))]) := by
        show _ = _
        rw [splitTo_snoc, HKS.out]
      clear hm hp2 hp3
      obtain ⟨p', hp'⟩ : ∃ p', p' = pos ks (i + 1) := ⟨_, rfl⟩
      rw [← hp'] at hend hops hpi hp4 HS
      have HQ : Hid (p' = pos ks (i + 1)) := hp'
      clear hp'
      generalize pos ks i = p at *
      obtain ⟨us, hus, hts⟩ := hown
      go_wp2_with (first | (go_at_call 76; refine hend.mono ?_; rintro e w2' ⟨rfl, rfl⟩) | (go_at_call 79; refine hops.mono ?_; rintro e w2 ⟨u, rfl, hb2, hu⟩; obtain ⟨uo, uc, rfl⟩ := owns_slice hu; have hus2 := owns_later hus hb2 (Nat.le_refl _)) | (at_builtin; refine wpList_append_own _ rfl (.tmp 45) (.tmp 47) 89 rfl w1'.heap.size 39 i0 (.slice none 0 0) 1 24 Tryd.underlying89 hi hz0 hz1 hz2 rfl (by decide) _ _ _ rfl (hus2.alloc _) ⟨_, 0, none⟩ 1 1 _ rfl rfl (cell_one_new _ _ _) ?c2 ?c3 ?c4 ?c5 ?_))
      case c2 => intro u hu; simp at hu; subst hu; rfl
      case c3 => rw [splitTo_len]; unfold maxLen; omega
      case c4 => rw [splitTo_len]; omega
      case c5 => have := hbel.size; have := hb2.size; simp; omega
      intro v' w4 hown' hgrow _
      have hsz := hbel.size
      have hsz2 := hb2.size
      have hT4 : TermsOwn w4 w1'.heap.size v' (splitTo l (i + 1)) := by
        rw [HS.out]
        exact TermsOwn.snoc hus2 (fun j hj => owns_later (hts j hj) hb2 (Nat.le_refl _)) (owns_mono hu hsz) ⟨_, rfl⟩ hgrow hown'
      have hb4 : Below w1'.heap.size w1' w4 := ((hbel.trans (hb2.mono hsz)).alloc (by omega) _).grown hgrow (by simp; omega) (fun q hq => (hus2.lt q hq).1)
      clear hown' hgrow hus2 hus hts hu hops hend hends2
      go_wp2
      go_roundw
      case rel => exact ⟨i + 1, by omega, by go_num, by rw [HQ.out], hT4, hb4⟩
      case measure => simp [intOf]; omega
    · have hin : i = np := by omega
      subst hin
      clear hlt hile
      go_wp2_with fail
      go_ret2
      exact ⟨_, rfl, hb1.trans (hbel.mono hb1.size), w1'.heap.size, hb1.size, hown⟩

set_option maxHeartbeats 800000 in
theorem splitOf_no (v : Value) (ks : List Int) (w : World) (hK : Kinds w v ks) (hz : endsCode ks ≠ 0) :
    Calls Tryd.prog 58 #[v] w fun e w' => e = .returned (.tuple #[.slice none 0 0, .int .i64 (endsCode ks)]) ∧ Below w.heap.size w w' := by
  have hends : Calls Tryd.prog 55 #[v] w fun e w' => e = .returned (.tuple #[.slice none 0 0, .int .i64 (endsCode ks)]) ∧ Below w.heap.size w w' := (endsOf_any v ks w hK).mono fun e w' ⟨h1, h2, _⟩ => ⟨h2 hz, h1⟩
  generalize endsCode ks = x at *
  clear hK
  go_enter Tryd.func58, Tryd.ntmps58
  go_wp2_with (go_at_call 55; refine hends.mono ?_; rintro e w1 ⟨rfl, hb1⟩)
  go_ret2
  exact ⟨rfl, hb1⟩

/-- THE CONTRACT OF SplitOf. -/
theorem splitOf_any (v : Value) (l : List (Int × Int)) (w : World) (hV : OpsV w v l) :
    Calls Tryd.prog 58 #[v] w fun e w' => ∃ v', e = .returned (.tuple #[v', .int .i64 (endsCode (l.map Prod.fst))]) ∧ Below w.heap.size w w' ∧ TermsV w' v' (splitL l) := by
  by_cases hz : endsCode (l.map Prod.fst) = 0
  · obtain ⟨h60, hone⟩ := code_zero hz
    have hne : l ≠ [] := by intro h; subst h; simp [cnt] at hone
    obtain ⟨ao, cap, rfl, hc, h⟩ := hV
    obtain ⟨b, off, rfl, hlt, hat⟩ := h hne
    refine (splitOf_ok b off _ cap l w rfl hlt hat hz).mono fun e w' ⟨v', he, hb, base, _, ht⟩ => ⟨v', by rw [hz]; exact he, hb, ?_⟩
    unfold splitL
    rw [if_pos hz]
    exact ht.termsV
  · refine (splitOf_no v _ w hV.kinds hz).mono fun e w' ⟨he, hb⟩ => ⟨_, he, hb, ?_⟩
    unfold splitL
    rw [if_neg hz]
    exact ⟨none, 0, rfl, fun h => absurd rfl h⟩

theorem splitL_small (l : List (Int × Int)) : (splitL l).length ≤ 2 ∧ ∀ i, i < (splitL l).length → ((splitL l).getD i []).length ≤ 60 := by
  unfold splitL
  split
  · rename_i hz
    obtain ⟨h60, _⟩ := code_zero hz
    rw [List.length_map] at h60
    refine ⟨by rw [splitTo_len]; exact pn_le _, fun i hi => ?_⟩
    rw [splitTo_len] at hi
    have hs : ∀ a c : Nat, (seg l a c).length ≤ 60 := fun a c => by simp [seg]; omega
    unfold splitTo
    rw [List.getD_eq_getElem?_getD, List.getElem?_map, List.getElem?_range hi]
    exact hs _ _
  · simp

end Go.Proofs.YtnicbkkkecfdpaaDoor

/-
  The contracts of the document's own In, makesTruth, takesTruth, typed.
-/
namespace Go.Proofs.YtnicbkkkecfdpaaDoor
open Go.ChangeShapes Go.WideShapes Go.ChangeAt Go.RowKit Go.Deep
open Terms Tm

theorem in_any (n low high : Int) (w : World) :
    Calls Tryd.prog 14 #[.int .i64 n, .int .i64 low, .int .i64 high] w fun e w' => e = .returned (.bool (decide (low ≤ n ∧ n ≤ high))) ∧ w' = w := by
  by_cases h1 : low ≤ n
  · by_cases h2 : n ≤ high
    · rw [show decide (low ≤ n ∧ n ≤ high) = true by simp [h1, h2]]
      go_enter Tryd.func14, Tryd.ntmps14
      go_wp2
      all_goals go_ret
      all_goals exact ⟨rfl, rfl⟩
    · rw [show decide (low ≤ n ∧ n ≤ high) = false by simp [h2]]
      go_enter Tryd.func14, Tryd.ntmps14
      go_wp2
      all_goals go_ret
      all_goals exact ⟨rfl, rfl⟩
  · rw [show decide (low ≤ n ∧ n ≤ high) = false by simp [h1]]
    go_enter Tryd.func14, Tryd.ntmps14
    go_wp2
    all_goals go_ret
    all_goals exact ⟨rfl, rfl⟩

theorem rmakesTruth_any (k : Int) (w : World) :
    Calls Tryd.prog 57 #[.int .i64 k] w fun e w' => e = .returned (.bool (mkT k)) ∧ w' = w := by
  have hin := fun w => in_any k 6 12 w
  rw [show decide (6 ≤ k ∧ k ≤ 12) = mkT k from rfl] at hin
  generalize mkT k = bb at *
  go_enter Tryd.func57, Tryd.ntmps57
  go_wp2_with (go_at_call 14; refine (hin _).mono ?_; rintro e w1 ⟨rfl, rfl⟩)
  go_ret
  exact ⟨rfl, rfl⟩
theorem rtakesTruth_any (k : Int) (w : World) :
    Calls Tryd.prog 77 #[.int .i64 k] w fun e w' => e = .returned (.bool (tkT k)) ∧ w' = w := by
  have hin := fun w => in_any k 8 10 w
  rw [show decide (8 ≤ k ∧ k ≤ 10) = tkT k from rfl] at hin
  generalize tkT k = bb at *
  go_enter Tryd.func77, Tryd.ntmps77
  go_wp2_with (go_at_call 14; refine (hin _).mono ?_; rintro e w1 ⟨rfl, rfl⟩)
  go_ret
  exact ⟨rfl, rfl⟩

theorem seg_app {α : Type} (x l r : List α) : seg (x ++ (l ++ r)) x.length (x.length + l.length) = l := by
  simp [seg]
/-- the parts of a tree's ops are its parts' ops. -/
theorem splitL_tree {t : Tm} (h : t.Wf) (h60 : t.size ≤ 60) : splitL t.ops = t.kids.map ops := by
  unfold splitL
  rw [if_pos (tree_code h h60)]
  have hk : (t.ops.map Prod.fst).getD 0 0 = t.kind := by cases t <;> rfl
  rw [hk, ← kids_pn h]
  cases t with
  | leaf k v => rfl
  | un k v a =>
    obtain ⟨_, _, ha⟩ := h
    have p0 : pos ((un k v a).ops.map Prod.fst) 0 = 1 := pos_zero _
    have p1 : pos ((un k v a).ops.map Prod.fst) 1 = 1 + a.ops.length := by
      refine pos_ok ?_
      show cnt (a.ops.map Prod.fst) 1 = _
      rw [Tm.one ha, ops_length]
    show (List.range 1).map _ = [a.ops]
    simp only [List.range_succ, List.range_zero, List.nil_append, List.map_cons, List.map_nil, p0, p1]
    rw [show (un k v a).ops = [(k, v)] ++ (a.ops ++ []) by simp [ops]]
    rw [show seg ([(k, v)] ++ (a.ops ++ [])) 1 (1 + a.ops.length) = a.ops from seg_app [(k, v)] a.ops []]
  | bi k v a b =>
    obtain ⟨_, _, ha, hb⟩ := h
    have hd : ((bi k v a b).ops.map Prod.fst).drop 1 = a.ops.map Prod.fst ++ (b.ops.map Prod.fst ++ []) := by simp [ops]
    have p0 : pos ((bi k v a b).ops.map Prod.fst) 0 = 1 := pos_zero _
    have p1 : pos ((bi k v a b).ops.map Prod.fst) 1 = 1 + a.ops.length := by
      refine pos_ok ?_
      rw [hd, count ha, cnt_zero, ops_length]
      simp [R.up]
    have p2 : pos ((bi k v a b).ops.map Prod.fst) 2 = 1 + a.ops.length + b.ops.length := by
      rw [pos_ok (m := a.size + b.size) ?_, ops_length, ops_length]
      · omega
      rw [hd, count ha, count hb, cnt_zero]
      simp [R.up]; omega
    show (List.range 2).map _ = [a.ops, b.ops]
    simp only [List.range_succ, List.range_zero, List.nil_append, List.map_append, List.map_cons, List.map_nil, p0, p1, p2]
    rw [show (bi k v a b).ops = [(k, v)] ++ (a.ops ++ b.ops) by simp [ops]]
    rw [show seg ([(k, v)] ++ (a.ops ++ b.ops)) 1 (1 + a.ops.length) = a.ops from seg_app [(k, v)] a.ops b.ops]
    have e : [(k, v)] ++ (a.ops ++ b.ops) = ([(k, v)] ++ a.ops) ++ (b.ops ++ []) := by simp
    rw [e, show seg (([(k, v)] ++ a.ops) ++ (b.ops ++ [])) (1 + a.ops.length) (1 + a.ops.length + b.ops.length) = b.ops by
      have := seg_app ([(k, v)] ++ a.ops) b.ops []
      rwa [show ([(k, v)] ++ a.ops).length = 1 + a.ops.length by simp; omega] at this]
    rfl

set_option maxHeartbeats 1600000 in
set_option maxRecDepth 20000 in
/-- THE CONTRACT OF typed. -/
theorem typed_any (vars : Int) (d : Nat) : ∀ (t : Tm) (v : Value) (w : World), t.size ≤ d → t.size ≤ 60 → t.Good vars → OpsV w v t.ops →
    Calls Tryd.prog 56 #[v] w fun e w' => e = .returned (.int .i64 (if t.typed = true then 0 else 5)) ∧ Below w.heap.size w w' := by
  induction d with
  | zero => intro t v w hd; have := t.size_pos; omega
  | succ d ih =>
    intro t v w hd h60 hg hV
    have hsp := splitOf_any v t.ops w hV
    rw [splitL_tree hg.wf h60, tree_code hg.wf h60] at hsp
    obtain ⟨ao, cap, rfl, _, h⟩ := hV
    obtain ⟨b, off, rfl, hlt, hat⟩ := h t.ops_ne
    have hc := (hat 0 (by rw [ops_length]; exact t.size_pos)).1
    rw [t.ops_head, Nat.zero_mul, Nat.add_zero] at hc
    simp only at hc
    have hlen : 0 < t.ops.length := by rw [ops_length]; exact t.size_pos
    have HTK := (show Hid _ from t.typed_kids)
    have HG : Hid (t.Good vars) := hg
    have hk2 := t.kids_le
    have HS : Hid (∀ i, i < t.kids.length → (t.kids.getD i t).size ≤ d ∧ (t.kids.getD i t).size ≤ 60) := fun i hi => by
      have := t.kid_at hi
      omega
    obtain ⟨np, hnp⟩ : ∃ np, np = t.kids.length := ⟨_, rfl⟩
    have HNP : Hid (np = t.kids.length) := hnp
    rw [← hnp] at hk2
    obtain ⟨n, hn⟩ : ∃ n, n = t.ops.length := ⟨_, rfl⟩
    rw [← hn] at hsp hlen ⊢
    have htk := fun w => rtakesTruth_any t.kind w
    have HK0 : Hid (∃ k, k = t.kind) := ⟨_, rfl⟩
    obtain ⟨k0, hk0⟩ : ∃ k0, k0 = t.kind := ⟨_, rfl⟩
    rw [← hk0] at hc htk
    have HK : Hid (k0 = t.kind) := hk0
    clear h hat hnp hn hk0 HK0 hg
    go_enter Tryd.func56, Tryd.ntmps56
    go_wp2_with (go_at_call 58; refine hsp.mono ?_; rintro e w1 ⟨tv, rfl, hb1, ht⟩; obtain ⟨tao, tcap, htv, htat⟩ := ht; rw [List.length_map, ← HNP.out] at htv; subst htv)
    have HT := (show Hid _ from htat)
    clear htat hsp
    go_loopw [5] (fun c wr => ∃ i : Nat, i ≤ np ∧ c = .int .i64 i ∧ Below w1.heap.size w1 wr ∧ Hid (∀ j, j < i → mkT (t.kids.getD j t).kind = tkT t.kind ∧ (t.kids.getD j t).typed = true)) (fun c _ => np - (intOf c).toNat)
    case atStart => exact ⟨0, Nat.zero_le _, rfl, Below.refl _ _, fun j hj => by omega⟩
    case round =>
      obtain ⟨i, hi, rfl, hbel, HJ⟩ := hrel
      have hbw := hb1.trans (hbel.mono hb1.size)
      have hsz := hbel.size
      have hsz1 := hb1.size
      by_cases hlti : i < np
      · have hltk : i < t.kids.length := by rw [← HNP.out]; exact hlti
        obtain ⟨tb, toff, rfl, hbl, hcs⟩ := HT.out (by intro h; have := congrArg List.length h; rw [List.length_map] at this; simp at this; rw [this] at hltk; simp at hltk)
        obtain ⟨u, hu, hou⟩ := hcs i (by rw [List.length_map]; exact hltk)
        have hgd : (t.kids.map ops).getD i [] = (t.kids.getD i t).ops := by
          rw [List.getD_eq_getElem?_getD, List.getElem?_map, List.getD_eq_getElem?_getD, List.getElem?_eq_getElem hltk]
          rfl
        rw [hgd] at hou
        obtain ⟨hs1, hs2⟩ := HS.out i hltk
        have hgk := HG.out.kid hltk
        have HTi := (show Hid _ from fun h => HTK.out.1 h i hltk)
        have HJ2 : Hid (mkT (t.kids.getD i t).kind = tkT t.kind → (t.kids.getD i t).typed = true → ∀ j, j < i + 1 → mkT (t.kids.getD j t).kind = tkT t.kind ∧ (t.kids.getD j t).typed = true) := fun h1 h2 j hj => by
          by_cases hji : j < i
          · exact HJ.out j hji
          · obtain rfl : j = i := by omega
            exact ⟨h1, h2⟩
        generalize t.kids.getD i t = s at *
        have hrec := fun w' (hw' : Below wr.heap.size wr w') => ih s u w' hs1 hs2 hgk ((hou.below hbel).below hw')
        have hou' := hou.below hbel
        obtain ⟨uao, ucap, rfl, _, hh⟩ := hou'
        obtain ⟨ub, uoff, rfl, hubl, huat⟩ := hh s.ops_ne
        have huc := (huat 0 (by rw [ops_length]; exact s.size_pos)).1
        rw [s.ops_head, Nat.zero_mul, Nat.add_zero] at huc
        simp only at huc
        have hulen : 0 < s.ops.length := by rw [ops_length]; exact s.size_pos
        have hcu := (hbel.cell (p := ⟨tb, toff + i, none⟩) hbl).trans hu
        have hcw := (hbw.cell (p := ⟨b, off, none⟩) hlt).trans hc
        have hmk := fun w => rmakesTruth_any s.kind w
        have HKS : Hid (∃ k, k = s.kind) := ⟨_, rfl⟩
        obtain ⟨k1, hk1⟩ : ∃ k1, k1 = s.kind := ⟨_, rfl⟩
        have HK1 : Hid (k1 = s.kind) := hk1
        rw [← hk1] at huc hmk
        obtain ⟨un, hun⟩ : ∃ un, un = s.ops.length := ⟨_, rfl⟩
        rw [← hun] at hcu hulen hrec
        clear hgd hou hu hcs hh huat hk1 HKS hun hgk hs1 hs2
        by_cases hfit : mkT k1 = tkT k0
        · rw [hfit] at hmk
          have HFIT : Hid (mkT s.kind = tkT t.kind) := by rw [← HK1.out, ← HK.out]; exact hfit
          clear hfit
          generalize tkT k0 = bb at hmk htk
          have hS : ∀ w', Below wr.heap.size wr w' → w'.cell? ⟨tb, toff + i, none⟩ = some (.slice (some ⟨ub, uoff, none⟩) un ucap) ∧ w'.cell? ⟨ub, uoff, none⟩ = some (.int .i64 k1) ∧ w'.cell? ⟨b, off, none⟩ = some (.int .i64 k0) ∧ Below wr.heap.size wr w' := fun w' hw' =>
            ⟨(hw'.cell (p := ⟨tb, toff + i, none⟩) (by simp only; omega)).trans hcu, (hw'.cell (p := ⟨ub, uoff, none⟩) hubl).trans huc, (hw'.cell (p := ⟨b, off, none⟩) (by simp only; omega)).trans hcw, hw'⟩
          have hi0 : (0 : Int) ≤ (i : Int) := Int.natCast_nonneg _
          have hi1 : (i : Int) < (np : Int) := by omega
          have HBE : Hid (Below w1.heap.size w1 wr) := hbel
          have hB0 : Below wr.heap.size wr wr := Below.refl _ _
          by_cases hts : s.typed = true
          · rw [if_pos hts] at hrec
            have HJ3 := (show Hid _ from HJ2.out HFIT.out hts)
            clear hts HJ2 HTi hbel hbw
            go_wp2_with fail
            go_region_held3 (fun w' => w'.cell? ⟨tb, toff + i, none⟩ = some (.slice (some ⟨ub, uoff, none⟩) un ucap) ∧ w'.cell? ⟨ub, uoff, none⟩ = some (.int .i64 k1) ∧ w'.cell? ⟨b, off, none⟩ = some (.int .i64 k0) ∧ Below wr.heap.size wr w')
              (exact hS _ (by first | exact hB0 | exact hB0.drew | exact hB0.drew.trans hb2))
              (first | (go_at_call 57; refine (hmk _).mono ?_; rintro e w2 ⟨rfl, rfl⟩) | (go_at_call 77; refine (htk _).mono ?_; rintro e w2 ⟨rfl, rfl⟩) | (go_at_call 56; refine (hrec _ hB0.drew).mono ?_; rintro e w2 ⟨rfl, hb2⟩))
            go_wp2_with fail
            go_roundw
            case rel => exact ⟨i + 1, by omega, by go_num, HBE.out.trans ((hB0.drew.trans hb2).mono HBE.out.size), HJ3⟩
            case measure => simp [intOf]; omega
          · rw [if_neg hts] at hrec
            have HX : Hid (¬ t.typed = true) := fun h => hts (HTi.out h).2
            clear hts HJ2 HTi hbel hbw
            go_wp2_with fail
            go_region_held3 (fun w' => w'.cell? ⟨tb, toff + i, none⟩ = some (.slice (some ⟨ub, uoff, none⟩) un ucap) ∧ w'.cell? ⟨ub, uoff, none⟩ = some (.int .i64 k1) ∧ w'.cell? ⟨b, off, none⟩ = some (.int .i64 k0) ∧ Below wr.heap.size wr w')
              (exact hS _ (by first | exact hB0 | exact hB0.drew | exact hB0.drew.trans hb2))
              (first | (go_at_call 57; refine (hmk _).mono ?_; rintro e w2 ⟨rfl, rfl⟩) | (go_at_call 77; refine (htk _).mono ?_; rintro e w2 ⟨rfl, rfl⟩) | (go_at_call 56; refine (hrec _ hB0.drew).mono ?_; rintro e w2 ⟨rfl, hb2⟩))
            go_wp2_with fail
            go_ret
            exact ⟨by first | rfl | (rw [if_neg HX.out]; rfl), hb1.trans ((HBE.out.trans ((hB0.drew.trans hb2).mono HBE.out.size)).mono hb1.size)⟩
        · have HX : Hid (¬ t.typed = true) := fun h => hfit (by rw [HK1.out, HK.out]; exact (HTi.out h).1)
          have HBE : Hid (Below w1.heap.size w1 wr) := hbel
          have hne : (mkT k1 == tkT k0) = false := by simpa using hfit
          have hi0 : (0 : Int) ≤ (i : Int) := Int.natCast_nonneg _
          have hi1 : (i : Int) < (np : Int) := by omega
          clear HTi HJ2 hbel hbw hrec
          generalize tkT k0 = bb at *
          generalize mkT k1 = ba at *
          go_wp2_with fail
          go_quiet ((first | (go_at_call 57; exact Calls.quiet_of_same (hmk _)) | (go_at_call 77; exact Calls.quiet_of_same (htk _))))
          go_wp2_with fail
          go_ret
          exact ⟨by first | rfl | (rw [if_neg HX.out]; rfl), hb1.trans ((below_drewN HBE.out _).mono hb1.size)⟩
      · have hin : i = np := by omega
        have HX : Hid (t.typed = true) := HTK.out.2 (fun j hj => HJ.out j (by rw [hin, HNP.out]; exact hj))
        clear hlti hi
        subst hin
        go_wp2_with fail
        go_ret
        exact ⟨by first | rfl | (rw [if_pos HX.out]; rfl), hbw⟩
end Go.Proofs.YtnicbkkkecfdpaaDoor

/-
  Names: the contract of the document's NameMay.
-/
namespace Go.Proofs.YtnicbkkkecfdpaaDoor
open Go.ChangeShapes Go.WideShapes Go.ChangeAt Go.RowKit Go.Deep
open Terms Tm

theorem nameMay_size (s : ByteArray) (w : World) (h : s.size < 1 ∨ 8 < s.size) :
    Calls Tryd.prog 42 #[.string s] w fun e w' => e = .returned (.bool (nameOk s)) ∧ w' = w := by
  rw [nameOk_head (show nmHead s = false by simp [nmHead]; omega)]
  have hin := fun w => in_any (s.size : Int) 1 8 w
  rw [show decide ((1 : Int) ≤ (s.size : Int) ∧ (s.size : Int) ≤ 8) = false by simp; omega] at hin
  clear h
  go_enter Tryd.func42, Tryd.ntmps42
  go_wp2_with (go_at_call 14; refine (hin _).mono ?_; rintro e w1 ⟨rfl, rfl⟩)
  all_goals go_ret
  all_goals exact ⟨rfl, rfl⟩
theorem nameMay_word (s : ByteArray) (w : World) (h1 : 1 ≤ s.size) (h8 : s.size ≤ 8) (h : (s.toList == [121, 101, 115]) = true ∨ (s.toList == [121, 101, 115]) = false ∧ (s.toList == [110, 111]) = true) :
    Calls Tryd.prog 42 #[.string s] w fun e w' => e = .returned (.bool (nameOk s)) ∧ w' = w := by
  rw [nameOk_head (show nmHead s = false by rcases h with h | ⟨_, h⟩ <;> (simp only [nmHead, h]; simp))]
  have hin := fun w => in_any (s.size : Int) 1 8 w
  rw [show decide ((1 : Int) ≤ (s.size : Int) ∧ (s.size : Int) ≤ 8) = true by simp; omega] at hin
  rcases h with h | ⟨h, h'⟩
  all_goals
    go_enter Tryd.func42, Tryd.ntmps42
    go_wp2_with (go_at_call 14; refine (hin _).mono ?_; rintro e w1 ⟨rfl, rfl⟩)
    all_goals go_ret
    all_goals exact ⟨rfl, rfl⟩
set_option maxHeartbeats 800000 in
theorem nameMay_loop (s : ByteArray) (w : World) (h1 : 1 ≤ s.size) (h8 : s.size ≤ 8) (hy : (s.toList == [121, 101, 115]) = false) (hn : (s.toList == [110, 111]) = false) :
    Calls Tryd.prog 42 #[.string s] w fun e w' => e = .returned (.bool (nameOk s)) ∧ w' = w := by
  have hh : Hid (nmHead s = true) := by show nmHead s = true; simp only [nmHead, hy, hn]; simp [h1, h8]
  have hin := fun w => in_any (s.size : Int) 1 8 w
  rw [show decide ((1 : Int) ≤ (s.size : Int) ∧ (s.size : Int) ≤ 8) = true by simp; omega] at hin
  go_enter Tryd.func42, Tryd.ntmps42
  go_wp2_with (go_at_call 14; refine (hin _).mono ?_; rintro e w1 ⟨rfl, rfl⟩)
  clear hy hn hin
  go_loop [3] (fun i => ∃ k : Nat, k ≤ s.size ∧ i = .int .i64 k ∧ Hid (∀ j, j < k → chOk j (byteAt s j) = true)) (fun i => s.size - (intOf i).toNat)
  case atStart => exact ⟨0, Nat.zero_le _, rfl, fun j hj => by omega⟩
  case round =>
    obtain ⟨k, hk, rfl, HJ⟩ := hrel
    by_cases hlt : k < s.size
    · have hbk : byteAt s k = (s[k].toNat : Int) := byteAt_get s hlt
      have hub : (s[k].toNat : Int) ≤ 255 := by have := s[k].toNat_lt; omega
      have hub0 : 0 ≤ (s[k].toNat : Int) := Int.natCast_nonneg _
      have hL := fun w => in_any (s[k].toNat : Int) 97 122 w
      have hD := fun w => in_any (s[k].toNat : Int) 48 57 w
      by_cases hc : chOk k (byteAt s k) = true
      · have HJ2 : Hid (∀ j, j < k + 1 → chOk j (byteAt s j) = true) := fun j hj => by
          by_cases hjk : j = k
          · subst hjk; exact hc
          · exact HJ.out j (by omega)
        rw [hbk] at hc
        simp only [chOk, decide_eq_true_eq] at hc
        clear hbk HJ
        have hcase : (decide (97 ≤ (s[k].toNat : Int) ∧ (s[k].toNat : Int) ≤ 122) = true ∧ decide (48 ≤ (s[k].toNat : Int) ∧ (s[k].toNat : Int) ≤ 57) = false) ∨ (decide (97 ≤ (s[k].toNat : Int) ∧ (s[k].toNat : Int) ≤ 122) = false ∧ decide (48 ≤ (s[k].toNat : Int) ∧ (s[k].toNat : Int) ≤ 57) = true ∧ ¬ k = 0) := by
          simp only [decide_eq_true_eq, decide_eq_false_iff_not]; omega
        clear hc
        rcases hcase with ⟨c1, c2⟩ | ⟨c1, c2, hk0⟩
        · rw [c1] at hL
          rw [c2] at hD
          clear c1 c2
          rcases Nat.eq_zero_or_pos k with rfl | hk0
          all_goals
            go_wp2_with (first | (go_at_call_of 14 (Value.int IntKind.i64 97); refine (hL _).mono ?_; rintro e w1 ⟨rfl, rfl⟩) | (go_at_call_of 14 (Value.int IntKind.i64 48); refine (hD _).mono ?_; rintro e w1 ⟨rfl, rfl⟩))
            go_round
            case rel => exact ⟨_, Nat.succ_le_of_lt hlt, by first | rfl | go_num, HJ2⟩
            case measure => simp [intOf]; omega
        · rw [c1] at hL
          rw [c2] at hD
          clear c1 c2
          go_wp2_with (first | (go_at_call_of 14 (Value.int IntKind.i64 97); refine (hL _).mono ?_; rintro e w1 ⟨rfl, rfl⟩) | (go_at_call_of 14 (Value.int IntKind.i64 48); refine (hD _).mono ?_; rintro e w1 ⟨rfl, rfl⟩))
          go_round
          case rel => exact ⟨k + 1, by omega, by go_num, HJ2⟩
          case measure => simp [intOf]; omega
      · have HR : Hid (nameOk s = false) := nameOk_at hlt (by simpa using hc)
        rw [hbk] at hc
        simp only [chOk, decide_eq_true_eq] at hc
        clear hbk HJ
        have hcase : (decide (97 ≤ (s[k].toNat : Int) ∧ (s[k].toNat : Int) ≤ 122) = false ∧ decide (48 ≤ (s[k].toNat : Int) ∧ (s[k].toNat : Int) ≤ 57) = false) ∨ (decide (97 ≤ (s[k].toNat : Int) ∧ (s[k].toNat : Int) ≤ 122) = false ∧ decide (48 ≤ (s[k].toNat : Int) ∧ (s[k].toNat : Int) ≤ 57) = true ∧ k = 0) := by
          simp only [decide_eq_true_eq, decide_eq_false_iff_not]; omega
        clear hc
        rcases hcase with ⟨c1, c2⟩ | ⟨c1, c2, rfl⟩
        all_goals
          rw [c1] at hL
          rw [c2] at hD
          clear c1 c2
          go_wp2_with (first | (go_at_call_of 14 (Value.int IntKind.i64 97); refine (hL _).mono ?_; rintro e w1 ⟨rfl, rfl⟩) | (go_at_call_of 14 (Value.int IntKind.i64 48); refine (hD _).mono ?_; rintro e w1 ⟨rfl, rfl⟩))
          all_goals go_ret
          all_goals rw [HR.out]
          all_goals exact ⟨rfl, rfl⟩
    · have hks : k = s.size := by omega
      have HR : Hid (nameOk s = true) := nameOk_true hh.out (fun i hi => HJ.out i (by omega))
      go_wp2
      go_ret
      rw [HR.out]
      exact ⟨rfl, rfl⟩
/-- THE CONTRACT OF NameMay. -/
theorem nameMay_any (s : ByteArray) (w : World) : Calls Tryd.prog 42 #[.string s] w fun e w' => e = .returned (.bool (nameOk s)) ∧ w' = w := by
  by_cases h : s.size < 1 ∨ 8 < s.size
  · exact nameMay_size s w h
  · by_cases hy : (s.toList == [121, 101, 115]) = true
    · exact nameMay_word s w (by omega) (by omega) (.inl hy)
    · by_cases hn : (s.toList == [110, 111]) = true
      · exact nameMay_word s w (by omega) (by omega) (.inr ⟨by simpa using hy, hn⟩)
      · exact nameMay_loop s w (by omega) (by omega) (by simpa using hy) (by simpa using hn)
end Go.Proofs.YtnicbkkkecfdpaaDoor

/-
  The contract of the document's own variablesFault.
-/
namespace Go.Proofs.YtnicbkkkecfdpaaDoor
open Go.ChangeShapes Go.WideShapes Go.ChangeAt Go.RowKit Go.Deep
open Terms Tm

theorem toList_ne {a b : ByteArray} (h : a ≠ b) : (a.toList == b.toList) = false := by
  rw [beq_eq_false_iff_ne]
  intro he
  apply h
  cases a; cases b
  simp only [ByteArray.mk.injEq]
  simpa [ByteArray.toList_eq] using he

set_option maxHeartbeats 3200000 in
theorem rvars_loop (va : Value) (l : List Vr) (w : World) (h6 : l.length ≤ 6) (hV : VarsV w va l) :
    Calls Tryd.prog 30 #[va] w fun e w' => e = .returned (.int .i64 (firstOf (vAt l) l.length)) ∧ Below w.heap.size w w' := by
  obtain ⟨ao, cap, rfl⟩ := hV.shape
  have HV : Hid (VarsV w (.slice ao l.length cap) l) := hV
  obtain ⟨n, hn⟩ : ∃ n, n = l.length := ⟨_, rfl⟩
  have HN : Hid (n = l.length) := hn
  rw [← hn] at h6 HV ⊢
  clear hV hn
  go_enter Tryd.func30, Tryd.ntmps30
  go_wp2
  go_loopw [3, 4] (fun st i wr => ∃ k : Nat, k ≤ n ∧ i = .int .i64 k ∧ st = .int .i64 (prodTo l k) ∧ Hid (∀ j, j < k → vAt l j = 0) ∧ Below w.heap.size w wr) (fun _ i _ => n - (intOf i).toNat)
  case atStart => exact ⟨0, Nat.zero_le _, rfl, rfl, fun j hj => by omega, Below.refl _ _⟩
  case round =>
    obtain ⟨k, hk, rfl, rfl, HJ, hbel⟩ := hrel
    by_cases hlt : k < n
    · obtain ⟨b, off, rfl, hblt, hat⟩ := HV.out.at (i := k) (by rw [← HN.out]; exact hlt)
      have HC : Hid (∀ q, q < n → wr.cell? ⟨b, off + q * 4, none⟩ = some (.string (l.getD q vr0).name)) := fun q hq => by
        obtain ⟨b', off', e, _, hq2⟩ := HV.out.at (i := q) (by rw [← HN.out]; exact hq)
        injection Option.some.inj e with e1 e2
        subst e1 e2
        exact (hq2.below hbel hblt).1
      obtain ⟨c0, c1, c2, c3⟩ := hat.below hbel hblt
      clear hat
      have hpb := prod_bounds HJ.out
      have HHit : Hid (∀ c, vAt l k = c → c ≠ 0 → firstOf (vAt l) n = c) := fun c h1 h2 => by rw [firstOf_hit hlt HJ.out (by rw [h1]; exact h2), h1]
      have HStep : Hid (vAt l k = 0 → ∀ j, j < k + 1 → vAt l j = 0) := fun h0 j hj => by
        by_cases hjk : j = k
        · subst hjk; exact h0
        · exact HJ.out j (by omega)
      have HPr : Hid (prodTo l (k + 1) = prodTo l k * vspan (l.getD k vr0)) := rfl
      have HX : Hid (∃ x, l.getD k vr0 = x) := ⟨_, rfl⟩
      obtain ⟨x, hx⟩ := HX.out
      rw [hx] at c0 c1 c2 c3 HPr
      obtain ⟨st, hst⟩ : ∃ st, prodTo l k = st := ⟨_, rfl⟩
      have HAt := (show Hid _ from vAt_eq hx hst)
      rw [hst] at hpb HPr ⊢
      clear hst hx HX HJ
      obtain ⟨s, lo, hi, ini⟩ := x
      simp only [vspan] at c0 c1 c2 c3 HPr
      have hnm := fun w => nameMay_any s w
      have hszw := hbel.size
      have hbA := hbel.alloc hszw (.cells #[.string s, .int .i64 lo, .int .i64 hi, .int .i64 ini] 51)
      cases hok : nameOk s with
      | false =>
        rw [hok] at hnm
        have HR : Hid (firstOf (vAt l) n = 6) := HHit.out 6 (HAt.out.1 hok) (by decide)
        clear HAt HStep HHit HPr hok HC
        go_wp2_with (go_at_call 42; refine (hnm _).mono ?_; rintro e w1 ⟨rfl, rfl⟩)
        go_ret
        rw [HR.out]
        exact ⟨rfl, hbA⟩
      | true =>
        rw [hok] at hnm
        go_wp2_with (go_at_call 42; refine (hnm _).mono ?_; rintro e w1 ⟨rfl, rfl⟩)
        generalize wr = wo at *
        go_loopw [6] (fun i wr => ∃ q : Nat, q ≤ k ∧ i = .int .i64 q ∧ Hid (∀ j, j < q → (l.getD j vr0).name ≠ s) ∧ ∃ d, wr = (wo.alloc (.cells #[.string s, .int .i64 lo, .int .i64 hi, .int .i64 ini] 51)).drewN d) (fun i _ => k - (intOf i).toNat)
        case atStart => exact ⟨0, Nat.zero_le _, rfl, fun j hj => by omega, 0, rfl⟩
        case round =>
          obtain ⟨q, hq, rfl, HQ, d, rfl⟩ := hrel
          by_cases hqk : q < k
          · have cq' := HC.out q (by omega)
            have hbo : b < wo.heap.size := by omega
            have cq := (((Below.refl wo.heap.size wo).alloc (Nat.le_refl _) (.cells #[.string s, .int .i64 lo, .int .i64 hi, .int .i64 ini] 51)).cell (p := ⟨b, off + q * 4, none⟩) hbo).trans cq'
            have hq0 : (0 : Int) ≤ (q : Int) := Int.natCast_nonneg _
            have hqn : (q : Int) < (n : Int) := by omega
            by_cases heq : (l.getD q vr0).name = s
            · have hmet : metName l k s = true := by
                simp only [metName, List.any_eq_true, List.mem_range, decide_eq_true_eq]
                exact ⟨q, hqk, heq⟩
              have HR : Hid (firstOf (vAt l) n = 7) := HHit.out 7 (HAt.out.2.1 hok hmet) (by decide)
              rw [heq] at cq cq'
              clear HAt HStep HHit HPr hok HC HQ heq hmet cq'
              go_wp2_with fail
              go_quiet (fail)
              go_wp2_with fail
              go_ret
              rw [HR.out]
              exact ⟨rfl, below_drewN (below_drewN hbA _) _⟩
            · have HQ2 : Hid (∀ j, j < q + 1 → (l.getD j vr0).name ≠ s) := fun j hj => by
                by_cases hjq : j = q
                · subst hjq; exact heq
                · exact HQ.out j (by omega)
              have hne := toList_ne heq
              generalize (l.getD q vr0).name = s' at *
              clear HAt HStep HHit HPr hok HC HQ heq cq'
              go_wp2_with fail
              go_quiet (fail)
              go_wp2_with fail
              go_roundw
              case rel => exact ⟨q + 1, by omega, by go_num, HQ2, _, rfl⟩
              case measure => simp [intOf]; omega
          · have hqe : q = k := by omega
            have hmet : metName l k s = false := by
              simp only [metName, List.any_eq_false, List.mem_range, decide_eq_true_eq]
              intro j hj
              exact HQ.out j (by omega)
            clear HQ HC hqk
            subst hqe
            have hbD := below_drewN hbA d
            cases hvb : vbound ⟨s, lo, hi, ini⟩ with
            | false =>
              have HR : Hid (firstOf (vAt l) n = 2) := HHit.out 2 (HAt.out.2.2.1 hok hmet hvb) (by decide)
              simp only [vbound, decide_eq_false_iff_not] at hvb
              have hcase : (¬ (-1000 ≤ lo ∧ lo ≤ 1000)) ∨ ((-1000 ≤ lo ∧ lo ≤ 1000) ∧ ¬ (lo ≤ hi ∧ hi ≤ 1000)) ∨ ((-1000 ≤ lo ∧ lo ≤ 1000) ∧ (lo ≤ hi ∧ hi ≤ 1000) ∧ ¬ (lo ≤ ini ∧ ini ≤ hi)) := by omega
              clear HAt HStep HHit HPr hok hmet hvb
              rcases hcase with h1 | ⟨h1, h2⟩ | ⟨h1, h2, h3⟩
              · have hin := fun w => in_any lo (-1000) 1000 w
                rw [decide_eq_false h1] at hin
                go_wp2_with (go_at_call 14; refine (hin _).mono ?_; rintro e w1 ⟨rfl, rfl⟩)
                go_ret
                rw [HR.out]
                exact ⟨rfl, hbD⟩
              · have hin := fun w => in_any lo (-1000) 1000 w
                have hin2 := fun w => in_any hi lo 1000 w
                rw [decide_eq_true h1] at hin
                rw [decide_eq_false h2] at hin2
                go_wp2_with (first | (go_at_call_of 14 (Value.int IntKind.i64 hi); refine (hin2 _).mono ?_; rintro e w1 ⟨rfl, rfl⟩) | (go_at_call 14; refine (hin _).mono ?_; rintro e w1 ⟨rfl, rfl⟩))
                go_ret
                rw [HR.out]
                exact ⟨rfl, hbD⟩
              · have hin := fun w => in_any lo (-1000) 1000 w
                have hin2 := fun w => in_any hi lo 1000 w
                have hin3 := fun w => in_any ini lo hi w
                rw [decide_eq_true h1] at hin
                rw [decide_eq_true h2] at hin2
                rw [decide_eq_false h3] at hin3
                go_wp2_with (first | (go_at_call_of 14 (Value.int IntKind.i64 ini); refine (hin3 _).mono ?_; rintro e w1 ⟨rfl, rfl⟩) | (go_at_call_of 14 (Value.int IntKind.i64 hi); refine (hin2 _).mono ?_; rintro e w1 ⟨rfl, rfl⟩) | (go_at_call 14; refine (hin _).mono ?_; rintro e w1 ⟨rfl, rfl⟩))
                go_ret
                rw [HR.out]
                exact ⟨rfl, hbD⟩
            | true =>
              obtain ⟨hv1, hv2, hv3, hv4, hv5, hv6, hv7⟩ := vbound_span hvb
              simp only [vspan] at hv1 hv2 hv3 hv4 hv5 hv6 hv7
              have hin := fun w => in_any lo (-1000) 1000 w
              have hin2 := fun w => in_any hi lo 1000 w
              have hin3 := fun w => in_any ini lo hi w
              rw [decide_eq_true ⟨hv3, by omega⟩] at hin
              rw [decide_eq_true ⟨hv5, hv4⟩] at hin2
              rw [decide_eq_true ⟨hv6, hv7⟩] at hin3
              have hm1 : 1 ≤ st * (hi - lo + 1) := by have := Int.mul_le_mul hpb.1 hv1 (by omega) (by omega); simpa using this
              have hm2 : st * (hi - lo + 1) ≤ 8196096 := by have := Int.mul_le_mul hpb.2 hv2 (by omega) (by omega); simpa using this
              by_cases hbig : 64 < hi - lo + 1 ∨ 4096 < st * (hi - lo + 1)
              · have HR : Hid (firstOf (vAt l) n = 1) := HHit.out 1 (HAt.out.2.2.2.1 hok hmet hvb (by simp only [vspan]; exact hbig)) (by decide)
                clear HAt HStep HHit HPr hok hmet hvb
                go_wp2_with (first | (go_at_call_of 14 (Value.int IntKind.i64 ini); refine (hin3 _).mono ?_; rintro e w1 ⟨rfl, rfl⟩) | (go_at_call_of 14 (Value.int IntKind.i64 hi); refine (hin2 _).mono ?_; rintro e w1 ⟨rfl, rfl⟩) | (go_at_call 14; refine (hin _).mono ?_; rintro e w1 ⟨rfl, rfl⟩))
                all_goals first | (exfalso; omega) | go_ret
                all_goals rw [HR.out]
                all_goals exact ⟨rfl, hbD⟩
              · have H0 : vAt l q = 0 := HAt.out.2.2.2.2 hok hmet hvb (by simp only [vspan]; exact hbig)
                have HJ2 := (show Hid _ from HStep.out H0)
                obtain ⟨hs1, hs2⟩ : hi - lo + 1 ≤ 64 ∧ st * (hi - lo + 1) ≤ 4096 := by omega
                have hs3 : hi - lo ≤ 63 := by omega
                clear HAt HStep HHit hok hmet hvb H0 hbig
                go_wp2_with (first | (go_at_call_of 14 (Value.int IntKind.i64 ini); refine (hin3 _).mono ?_; rintro e w1 ⟨rfl, rfl⟩) | (go_at_call_of 14 (Value.int IntKind.i64 hi); refine (hin2 _).mono ?_; rintro e w1 ⟨rfl, rfl⟩) | (go_at_call 14; refine (hin _).mono ?_; rintro e w1 ⟨rfl, rfl⟩))
                go_roundw
                case rel => exact ⟨q + 1, hlt, by go_num, by rw [HPr.out], HJ2, hbD⟩
                case measure => simp [intOf]; omega
    · have hkn : k = n := by omega
      have HR : Hid (firstOf (vAt l) n = 0) := firstOf_none (fun j hj => HJ.out j (by omega))
      go_wp2
      go_ret
      rw [HR.out]
      exact ⟨rfl, hbel⟩
theorem rvars_long (ao : Option Addr) (n cap : Nat) (w : World) (h : 6 < n) :
    Calls Tryd.prog 30 #[.slice ao n cap] w fun e w' => e = .returned (.int .i64 1) ∧ Below w.heap.size w w' := by
  go_enter Tryd.func30, Tryd.ntmps30
  go_wp2
  go_ret
  exact ⟨rfl, Below.refl _ _⟩
/-- THE CONTRACT OF variablesFault. -/
theorem rvars_any (va : Value) (l : List Vr) (w : World) (hV : VarsV w va l) :
    Calls Tryd.prog 30 #[va] w fun e w' => e = .returned (.int .i64 (vcode l)) ∧ Below w.heap.size w w' := by
  unfold vcode
  split
  · rename_i h
    obtain ⟨ao, cap, rfl⟩ := hV.shape
    exact rvars_long ao _ cap w h
  · rename_i h
    exact rvars_loop va l w (by omega) hV
end Go.Proofs.YtnicbkkkecfdpaaDoor

/-
  The contract of the document's EndsOf in one form.
-/
namespace Go.Proofs.YtnicbkkkecfdpaaDoor
open Go.ChangeShapes Go.WideShapes Go.ChangeAt Go.RowKit Go.Deep
open Terms

theorem endsOf_v (v : Value) (ks : List Int) (w : World) (hK : Kinds w v ks) :
    Calls Tryd.prog 55 #[v] w fun e w' => ∃ v', e = .returned (.tuple #[v', .int .i64 (endsCode ks)]) ∧ Below w.heap.size w w' ∧ IntsV w' v' (endsL ks) := by
  refine (endsOf_any v ks w hK).mono fun e w' ⟨hb, h1, h2⟩ => ?_
  by_cases hc : endsCode ks = 0
  · obtain ⟨v', rfl, hown⟩ := h2 hc
    refine ⟨_, by rw [hc], hb, ?_⟩
    unfold endsL
    rw [if_pos hc]
    rcases hown.2 with ⟨rfl, h0⟩ | ⟨g, cap, cur, rfl, hbg, hg, _⟩
    · rw [h0]; exact ⟨none, 0, rfl, fun h => absurd rfl h⟩
    · refine ⟨_, cap, by rw [List.length_map, List.length_range], fun _ => ⟨g, 0, rfl, (Array.getElem?_eq_some_iff.1 hg).1, fun i hi => ?_⟩⟩
      rw [List.length_map, List.length_range] at hi
      rw [Nat.zero_add, hown.cellAt i (by omega)]
      simp [List.getD_eq_getElem?_getD, hi]
  · refine ⟨_, h1 hc, hb, ?_⟩
    unfold endsL
    rw [if_neg hc]
    exact ⟨none, 0, rfl, fun h => absurd rfl h⟩

end Go.Proofs.YtnicbkkkecfdpaaDoor

/-
  The contract of the document's own ExprChecked.
-/
namespace Go.Proofs.YtnicbkkkecfdpaaDoor
open Go.ChangeShapes Go.WideShapes Go.ChangeAt Go.RowKit Go.Deep
open Terms Tm

theorem rc_range (ao : Option Addr) (n cap : Nat) (vars : Int) (w : World) (h : vars < 0 ∨ 6 < vars) :
    Calls Tryd.prog 44 #[.slice ao n cap, .int .i64 vars] w fun e w' => e = .returned (.tuple #[.bool false, .int .i64 2]) ∧ Below w.heap.size w w' := by
  have hin := fun w => in_any vars 0 6 w
  rw [show decide (0 ≤ vars ∧ vars ≤ 6) = false by simp; omega] at hin
  clear h
  go_enter Tryd.func44, Tryd.ntmps44
  go_wp2_with (go_at_call 14; refine (hin _).mono ?_; rintro e w1 ⟨rfl, rfl⟩)
  all_goals go_ret2
  all_goals exact ⟨rfl, Below.refl _ _⟩

theorem rc_ends (v : Value) (ks : List Int) (vars : Int) (w : World) (h0 : 0 ≤ vars) (h6 : vars ≤ 6) (hK : Kinds w v ks) (hz : endsCode ks ≠ 0) :
    Calls Tryd.prog 44 #[v, .int .i64 vars] w fun e w' => e = .returned (.tuple #[.bool false, .int .i64 (endsCode ks)]) ∧ Below w.heap.size w w' := by
  have hin := fun w => in_any vars 0 6 w
  rw [show decide (0 ≤ vars ∧ vars ≤ 6) = true by simp; omega] at hin
  have hends : Calls Tryd.prog 55 #[v] w fun e w' => e = .returned (.tuple #[.slice none 0 0, .int .i64 (endsCode ks)]) ∧ Below w.heap.size w w' := (endsOf_any v ks w hK).mono fun e w' ⟨h1, h2, _⟩ => ⟨h2 hz, h1⟩
  generalize endsCode ks = x at *
  obtain ⟨ao, cap, rfl, _⟩ := hK
  clear h0 h6
  go_enter Tryd.func44, Tryd.ntmps44
  go_wp2_with (first | (go_at_call 14; refine (hin _).mono ?_; rintro e w0 ⟨rfl, rfl⟩) | (go_at_call 55; refine hends.mono ?_; rintro e w1 ⟨rfl, hb1⟩))
  go_ret2
  exact ⟨rfl, hb1⟩

set_option maxHeartbeats 3200000 in
theorem rc_tree (b off n cap : Nat) (vars : Int) (t : Tm) (w : World) (hn : n = t.size) (h60 : n ≤ 60) (h0 : 0 ≤ vars) (h6 : vars ≤ 6) (hwf : t.Wf) (hbB : b < w.heap.size) (hcap : n ≤ cap) (hA : OpsAt w b off t.ops) :
    Calls Tryd.prog 44 #[.slice (some ⟨b, off, none⟩) n cap, .int .i64 vars] w fun e w' => e = .returned (.tuple #[.bool (decide (xcode vars t.ops t = 0) && mkT t.kind), .int .i64 (xcode vars t.ops t)]) ∧ Below w.heap.size w w' := by
  have hz : endsCode (t.ops.map Prod.fst) = 0 := tree_code hwf (by omega)
  have hV : OpsV w (.slice (some ⟨b, off, none⟩) n cap) t.ops := ⟨_, cap, by rw [ops_length, hn], ⟨by rw [ops_length, ← hn]; exact hcap, fun h => by simp at h⟩, fun _ => ⟨b, off, rfl, hbB, hA⟩⟩
  have hends : Calls Tryd.prog 55 #[.slice (some ⟨b, off, none⟩) n cap] w fun e w' => Below w.heap.size w w' ∧ ∃ v a c, e = .returned (.tuple #[.slice v a c, .int .i64 0]) :=
    (endsOf_v _ _ w hV.kinds).mono fun e w' ⟨v', he, hb, hi⟩ => ⟨hb, by obtain ⟨a, c, rfl, _⟩ := hi; rw [hz] at he; exact ⟨_, _, _, he⟩⟩
  have hin := fun w => in_any vars 0 6 w
  rw [show decide (0 ≤ vars ∧ vars ≤ 6) = true by simp; omega] at hin
  have hnr : ¬ (vars < 0 ∨ 6 < vars) := by omega
  have HO : Hid (∀ i, i < n → (∀ j, j < i → opErr vars (t.ops.getD j (0, 0)) = 0) → opErr vars (t.ops.getD i (0, 0)) ≠ 0 → xcode vars t.ops t = opErr vars (t.ops.getD i (0, 0))) := fun i hi hj hne => by
    have hx := firstErr_at (by rw [ops_length, ← hn]; exact hi) hj hne
    rw [xcode_op hnr hz (by rw [hx]; exact hne), hx]
  have HT2 : Hid ((∀ j, j < n → opErr vars (t.ops.getD j (0, 0)) = 0) → t.Good vars ∧ xcode vars t.ops t = if t.typed = true then 0 else 5) := fun hj => by
    have hf : firstErr vars t.ops = 0 := firstErr_none (by rw [ops_length, ← hn]; exact hj)
    exact ⟨good_of hwf (firstErr_all hf), xcode_type hnr hz hf⟩
  have HW1 : Hid (∀ i, i < n → 1 ≤ (t.ops.getD i (0, 0)).1) := fun i hi => by
    rw [op_at t (by omega)]
    have := sub_wf hwf i
    have hk : okK (t.sub i).kind = true := by
      generalize t.sub i = s at this
      cases s <;> exact this.1
    simp [okK] at hk
    exact hk.1
  have HA : Hid (OpsAt w b off t.ops) := hA
  have HV : Hid (OpsV w (.slice (some ⟨b, off, none⟩) n cap) t.ops) := hV
  have HN : Hid (n = t.size) := hn
  have hn1 : 0 < n := by rw [hn]; exact t.size_pos
  have hck := (hA 0 (by rw [ops_length]; exact t.size_pos)).1
  rw [t.ops_head, Nat.zero_mul, Nat.add_zero] at hck
  simp only at hck
  clear hz hV hA hwf hn hnr
  go_enter Tryd.func44, Tryd.ntmps44
  go_wp2_with (first | (go_at_call 14; refine (hin _).mono ?_; rintro e w0 ⟨rfl, rfl⟩) | (go_at_call 55; refine hends.mono ?_; rintro e w1 ⟨hb1, ev, ea, ec, rfl⟩))
  clear hends hin
  go_loopw [8] (fun c wr => ∃ i : Nat, i ≤ n ∧ c = .int .i64 i ∧ Below w1.heap.size w1 wr ∧ Hid (∀ j, j < i → opErr vars (t.ops.getD j (0, 0)) = 0)) (fun c _ => n - (intOf c).toNat)
  case atStart => exact ⟨0, Nat.zero_le _, rfl, Below.refl _ _, fun j hj => by omega⟩
  case round =>
    obtain ⟨i, hi, rfl, hbel, HJ⟩ := hrel
    have hsz1 := hb1.size
    have hsz2 := hbel.size
    by_cases hlt : i < n
    · have hbw := hb1.trans (hbel.mono hb1.size)
      obtain ⟨c0, c1⟩ := (HA.out.below hbw hbB) i (by rw [ops_length, ← HN.out]; exact hlt)
      have HOi := (show Hid _ from HO.out i hlt HJ.out)
      have hk1 := HW1.out i hlt
      have HJ2 : Hid (opErr vars (t.ops.getD i (0, 0)) = 0 → ∀ j, j < i + 1 → opErr vars (t.ops.getD j (0, 0)) = 0) := fun h j hj => by
        by_cases hji : j < i
        · exact HJ.out j hji
        · obtain rfl : j = i := by omega
          exact h
      generalize t.ops.getD i (0, 0) = xy at c0 c1 HOi HJ2 hk1
      obtain ⟨x, y⟩ := xy
      simp only at c0 c1 hk1
      have HBA : Hid (∀ o, Below w1.heap.size w1 (wr.alloc o)) := fun o => hbel.alloc hbel.size o
      have HBS : Hid (∀ o v, Below w1.heap.size w1 ((wr.alloc o).setCell ⟨wr.heap.size, 0, none⟩ v)) := fun o v => (hbel.alloc hbel.size o).setCell hbel.size v
      clear hbw hbel
      by_cases hx12 : 12 < x
      · have HX : Hid (xcode vars t.ops t = 13) := by
          have h := HOi.out (by simp [opErr, hx12])
          rw [show opErr vars (x, y) = 13 by simp [opErr, hx12]] at h
          exact h
        clear HOi HJ2
        go_wp2_with fail
        go_ret2
        rw [HX.out]
        exact ⟨rfl, hb1.trans (Below.mono (by first | exact HBA.out _ | exact HBS.out _ _) hb1.size)⟩
      · have hx12' : x ≤ 12 := by omega
        by_cases hx1 : x = 1
        · subst hx1
          have hin := fun w => in_any y (-1000) 1000 w
          by_cases hv : -1000 ≤ y ∧ y ≤ 1000
          · have HJ3 : Hid (∀ j, j < i + 1 → opErr vars (t.ops.getD j (0, 0)) = 0) := HJ2.out (by simp [opErr, hv])
            rw [show decide (-1000 ≤ y ∧ y ≤ 1000) = true by simp [hv]] at hin
            clear HOi HJ2 hv
            go_wp2_with (go_at_call 14; refine (hin _).mono ?_; rintro e w2 ⟨rfl, rfl⟩)
            go_roundw
            case rel => exact ⟨i + 1, by omega, by go_num, by first | exact HBA.out _ | exact HBS.out _ _, HJ3⟩
            case measure => simp [intOf]; omega
          · have ho : opErr vars (1, y) = 2 := by simp [opErr]; omega
            have HX : Hid (xcode vars t.ops t = 2) := by have h := HOi.out (by rw [ho]; decide); rw [ho] at h; exact h
            rw [show decide (-1000 ≤ y ∧ y ≤ 1000) = false by simp; omega] at hin
            clear HOi HJ2 hv ho
            go_wp2_with (go_at_call 14; refine (hin _).mono ?_; rintro e w2 ⟨rfl, rfl⟩)
            go_ret2
            rw [HX.out]
            exact ⟨rfl, hb1.trans (Below.mono (by first | exact HBA.out _ | exact HBS.out _ _) hb1.size)⟩
        · by_cases hx2 : x = 2
          · subst hx2
            have hin := fun w => in_any y 0 (vars - 1) w
            by_cases hv : 0 ≤ y ∧ y ≤ vars - 1
            · have HJ3 : Hid (∀ j, j < i + 1 → opErr vars (t.ops.getD j (0, 0)) = 0) := HJ2.out (by simp [opErr]; omega)
              rw [show decide (0 ≤ y ∧ y ≤ vars - 1) = true by simp; omega] at hin
              clear HOi HJ2 hv
              go_wp2_with (go_at_call 14; refine (hin _).mono ?_; rintro e w2 ⟨rfl, rfl⟩)
              go_roundw
              case rel => exact ⟨i + 1, by omega, by go_num, by first | exact HBA.out _ | exact HBS.out _ _, HJ3⟩
              case measure => simp [intOf]; omega
            · have ho : opErr vars (2, y) = 2 := by simp [opErr]; omega
              have HX : Hid (xcode vars t.ops t = 2) := by have h := HOi.out (by rw [ho]; decide); rw [ho] at h; exact h
              rw [show decide (0 ≤ y ∧ y ≤ vars - 1) = false by simp; omega] at hin
              clear HOi HJ2 hv ho
              go_wp2_with (go_at_call 14; refine (hin _).mono ?_; rintro e w2 ⟨rfl, rfl⟩)
              go_ret2
              rw [HX.out]
              exact ⟨rfl, hb1.trans (Below.mono (by first | exact HBA.out _ | exact HBS.out _ _) hb1.size)⟩
          · have hx3 : 2 < x := by omega
            by_cases hv : y = 0
            · subst hv
              have HJ3 : Hid (∀ j, j < i + 1 → opErr vars (t.ops.getD j (0, 0)) = 0) := HJ2.out (by simp [opErr, hx1, hx2]; omega)
              clear HOi HJ2
              go_wp2_with fail
              go_roundw
              case rel => exact ⟨i + 1, by omega, by go_num, by first | exact HBA.out _ | exact HBS.out _ _, HJ3⟩
              case measure => simp [intOf]; omega
            · have ho : opErr vars (x, y) = 2 := by simp [opErr, hx1, hx2, hv]; omega
              have HX : Hid (xcode vars t.ops t = 2) := by have h := HOi.out (by rw [ho]; decide); rw [ho] at h; exact h
              clear HOi HJ2 ho
              go_wp2_with fail
              go_ret2
              rw [HX.out]
              exact ⟨rfl, hb1.trans (Below.mono (by first | exact HBA.out _ | exact HBS.out _ _) hb1.size)⟩
    · have hin : i = n := by omega
      subst hin
      obtain ⟨hg, hx⟩ := HT2.out HJ.out
      have hbw := hb1.trans (hbel.mono hb1.size)
      have hty := typed_any vars _ t _ wr (Nat.le_refl _) (by rw [← HN.out]; exact h60) hg (HV.out.below hbw)
      have hcw := (hbw.cell (p := ⟨b, off, none⟩) hbB).trans hck
      have hmk := fun w => rmakesTruth_any t.kind w
      generalize hkk : t.kind = k0 at hcw hmk hck
      by_cases htt : t.typed = true
      · have HX : Hid (xcode vars t.ops t = 0 ∧ t.kind = k0) := ⟨by rw [hx, if_pos htt], hkk⟩
        rw [if_pos htt] at hty
        clear hx htt HT2 HO HJ hkk hg hlt hi
        go_wp2_with (first | (go_at_call 56; refine hty.mono ?_; rintro e w2 ⟨rfl, hb2⟩; have hc2 := (hb2.cell (p := ⟨b, off, none⟩) (by have := hbw.size; simp only; omega)).trans hcw) | (go_at_call 57; refine (hmk _).mono ?_; rintro e w3 ⟨rfl, rfl⟩))
        go_ret2
        rw [HX.out.1, HX.out.2]
        exact ⟨rfl, hbw.trans (hb2.mono hbw.size)⟩
      · have HX : Hid (xcode vars t.ops t = 5) := by show _ = _; rw [hx, if_neg htt]
        rw [if_neg htt] at hty
        clear hx htt HT2 HO HJ hkk hg hlt hi
        go_wp2_with (go_at_call 56; refine hty.mono ?_; rintro e w2 ⟨rfl, hb2⟩)
        go_ret2
        rw [HX.out]
        exact ⟨rfl, hbw.trans (hb2.mono hbw.size)⟩

/-- THE CONTRACT OF ExprChecked. -/
theorem exprChecked_any (v : Value) (l : List (Int × Int)) (vars : Int) (t : Tm) (w : World) (hV : OpsV w v l) (ht : endsCode (l.map Prod.fst) = 0 → t.Wf ∧ t.ops = l) :
    Calls Tryd.prog 44 #[v, .int .i64 vars] w fun e w' => e = .returned (.tuple #[.bool (decide (xcode vars l t = 0) && mkT t.kind), .int .i64 (xcode vars l t)]) ∧ Below w.heap.size w w' := by
  by_cases hr : vars < 0 ∨ 6 < vars
  · rw [xcode_range hr]
    obtain ⟨ao, cap, rfl, _⟩ := hV
    exact rc_range ao _ cap vars w hr
  · by_cases hz : endsCode (l.map Prod.fst) = 0
    · obtain ⟨hwf, hops⟩ := ht hz
      obtain ⟨h60, _⟩ := code_zero hz
      rw [List.length_map] at h60
      subst hops
      obtain ⟨ao, cap, rfl, hcap, h⟩ := hV
      obtain ⟨b, off, rfl, hlt, hat⟩ := h t.ops_ne
      exact rc_tree b off _ cap vars t w t.ops_length h60 (by omega) (by omega) hwf hlt hcap.1 hat
    · rw [xcode_ends hr hz]
      rw [show (decide (endsCode (l.map Prod.fst) = 0) && mkT t.kind) = false by simp [hz]]
      exact rc_ends v _ vars w (by omega) (by omega) hV.kinds hz
end Go.Proofs.YtnicbkkkecfdpaaDoor

/-
  The contracts of the document's own kindFault, ruleFault.
-/
namespace Go.Proofs.YtnicbkkkecfdpaaDoor
open Go.ChangeShapes Go.WideShapes Go.ChangeAt Go.RowKit Go.Deep
open Terms Tm

theorem kindFault_any (v : Value) (l : List (Int × Int)) (vars : Int) (tr : Bool) (w : World) (hV : OpsV w v l) :
    Calls Tryd.prog 43 #[v, .int .i64 vars, .bool tr] w fun e w' => e = .returned (.int .i64 (kcode vars l tr)) ∧ Below w.heap.size w w' := by
  have hch := exprChecked_any v l vars (treeOf l) w hV (treeOf_spec l)
  obtain ⟨ao, cap, rfl⟩ := hV.shape
  unfold kcode
  generalize xcode vars l (treeOf l) = x at *
  generalize mkT (treeOf l).kind = mk at *
  clear hV
  by_cases hx : x = 0
  · subst hx
    rw [if_pos rfl]
    rw [show (decide ((0 : Int) = 0) && mk) = mk by simp] at hch
    by_cases hm : mk = tr
    · rw [if_pos hm]
      subst hm
      go_enter Tryd.func43, Tryd.ntmps43
      go_wp2_with (go_at_call 44; refine hch.mono ?_; rintro e w1 ⟨rfl, hb1⟩)
      all_goals go_ret
      all_goals exact ⟨rfl, hb1⟩
    · rw [if_neg hm]
      have hne : (mk == tr) = false := by simpa using hm
      go_enter Tryd.func43, Tryd.ntmps43
      go_wp2_with (go_at_call 44; refine hch.mono ?_; rintro e w1 ⟨rfl, hb1⟩)
      all_goals go_ret
      all_goals exact ⟨rfl, hb1⟩
  · rw [if_neg hx]
    rw [show (decide (x = 0) && mk) = false by simp [hx]] at hch
    go_enter Tryd.func43, Tryd.ntmps43
    go_wp2_with (go_at_call 44; refine hch.mono ?_; rintro e w1 ⟨rfl, hb1⟩)
    all_goals go_ret
    all_goals exact ⟨rfl, hb1⟩

theorem rsAt_eq {vars : Int} {l : List St} {k : Nat} {x : St} (hx : l.getD k st0 = x) :
    (x.var < 0 ∨ vars ≤ x.var → sAt vars l k = 2) ∧ (¬ (x.var < 0 ∨ vars ≤ x.var) → metVar l k x.var = true → sAt vars l k = 7) ∧ (¬ (x.var < 0 ∨ vars ≤ x.var) → metVar l k x.var = false → sAt vars l k = kcode vars x.val false) := by
  subst hx
  refine ⟨fun h1 => ?_, fun h1 h2 => ?_, fun h1 h2 => ?_⟩
  all_goals unfold sAt
  · rw [if_pos h1]
  · rw [if_neg h1, if_pos h2]
  · rw [if_neg h1, if_neg (by rw [h2]; decide)]

theorem rrule_long (gv : Value) (so : Option Addr) (n cap : Nat) (vars : Int) (w : World) (h : 6 < n) :
    Calls Tryd.prog 31 #[.agg #[gv, .slice so n cap], .int .i64 vars] w fun e w' => e = .returned (.int .i64 1) ∧ Below w.heap.size w w' := by
  go_enter Tryd.func31, Tryd.ntmps31
  go_wp2
  go_ret
  exact ⟨rfl, (Below.refl _ _).alloc (Nat.le_refl _) _⟩

set_option maxHeartbeats 3200000 in
theorem rrule_loop (gv sv : Value) (r : Ru) (vars : Int) (w : World) (hv0 : 0 ≤ vars) (hv6 : vars ≤ 6) (h6 : r.sets.length ≤ 6) (hG : OpsV w gv r.guard) (hS : SetsV w sv r.sets) :
    Calls Tryd.prog 31 #[.agg #[gv, sv], .int .i64 vars] w fun e w' => e = .returned (.int .i64 (if kcode vars r.guard true = 0 then firstOf (sAt vars r.sets) r.sets.length else kcode vars r.guard true)) ∧ Below w.heap.size w w' := by
  have hA : ∀ o, Below w.heap.size w (w.alloc o) := fun o => (Below.refl _ _).alloc (Nat.le_refl _) o
  have hcm := fun o => kindFault_any gv r.guard vars true (w.alloc o) (hG.below (hA o))
  obtain ⟨ga, gc, rfl⟩ := hG.shape
  obtain ⟨so, sc, rfl⟩ := hS.shape
  generalize hl : r.sets = l at *
  have HS : Hid (SetsV w (.slice so l.length sc) l) := hS
  obtain ⟨n, hn⟩ : ∃ n, n = l.length := ⟨_, rfl⟩
  have HN : Hid (n = l.length) := hn
  rw [← hn] at h6 HS ⊢
  obtain ⟨g, hg⟩ : ∃ g, kcode vars r.guard true = g := ⟨_, rfl⟩
  rw [hg] at hcm ⊢
  obtain ⟨res, hres⟩ : ∃ res, (if g = 0 then firstOf (sAt vars l) n else g) = res := ⟨_, rfl⟩
  rw [hres]
  have HRes : Hid ((g = 0 → res = firstOf (sAt vars l) n) ∧ (g ≠ 0 → res = g)) := ⟨fun h => by rw [← hres, if_pos h], fun h => by rw [← hres, if_neg h]⟩
  generalize r.guard.length = gn at *
  clear hG hS hn hl hg hres
  go_enter Tryd.func31, Tryd.ntmps31
  go_wp2_with (go_at_call 43; refine (hcm _).mono ?_; rintro e w1 ⟨rfl, hb1⟩)
  have hb1' : Below (w.heap.size + 1) (w.alloc (.cells #[.slice ga gn gc, .slice so n sc] 43)) w1 := hb1.mono (by simp)
  clear hcm hb1
  go_loopw [5, 6] (fun e i wr => ∃ (k : Nat) (x : Int), k ≤ n ∧ i = .int .i64 k ∧ e = .int .i64 x ∧ Hid ((x = 0 → g = 0 ∧ ∀ j, j < k → sAt vars l j = 0) ∧ (x ≠ 0 → res = x)) ∧ Below (w.heap.size + 1) (w.alloc (.cells #[.slice ga gn gc, .slice so n sc] 43)) wr) (fun _ i _ => n - (intOf i).toNat)
  case atStart => exact ⟨0, g, Nat.zero_le _, rfl, rfl, ⟨fun h => ⟨h, fun j hj => by omega⟩, fun h => HRes.out.2 h⟩, hb1'⟩
  case round =>
    obtain ⟨k, x, hk, rfl, rfl, HJ, hbel⟩ := hrel
    have hbw := (hA _).trans (hbel.mono (Nat.le_succ _))
    have hszb : w.heap.size + 1 ≤ wr.heap.size := by have := hbel.size; simp at this; omega
    have hlb : w.heap.size < wr.heap.size := by omega
    have cb := (hbel.cell (p := ⟨w.heap.size, 1, none⟩) (by simp)).trans (show _ = some (.slice so n sc) by simp [go_sem])
    clear hb1'
    by_cases hx : x = 0
    · subst hx
      obtain ⟨hg0, hJ⟩ := HJ.out.1 rfl
      have HJ' := (show Hid _ from hJ)
      have HRF : Hid (res = firstOf (sAt vars l) n) := HRes.out.1 hg0
      have HG0 : Hid (g = 0) := hg0
      clear HJ hJ HRes hg0
      by_cases hlt : k < n
      · obtain ⟨b, off, rfl, hblt, hat⟩ := HS.out.at (i := k) (by rw [← HN.out]; exact hlt)
        have HC : Hid (∀ q, q < n → wr.cell? ⟨b, off + q * 2, none⟩ = some (.int .i64 (l.getD q st0).var)) := fun q hq => by
          obtain ⟨b', off', e, _, hq2⟩ := HS.out.at (i := q) (by rw [← HN.out]; exact hq)
          injection Option.some.inj e with e1 e2
          subst e1 e2
          exact (hbw.cell (p := ⟨b, off + q * 2, none⟩) hblt).trans hq2.1
        have HAt := (show Hid _ from rsAt_eq (vars := vars) (l := l) (k := k) rfl)
        have HHit : Hid (∀ c, sAt vars l k = c → c ≠ 0 → res = c) := fun c h1 h2 => by rw [HRF.out, firstOf_hit hlt HJ'.out (by rw [h1]; exact h2), h1]
        have HStep : Hid (sAt vars l k = 0 → ∀ j, j < k + 1 → sAt vars l j = 0) := fun h0 j hj => by
          by_cases hjk : j = k
          · subst hjk; exact h0
          · exact HJ'.out j (by omega)
        obtain ⟨x, hx⟩ : ∃ x, l.getD k st0 = x := ⟨_, rfl⟩
        rw [hx] at hat HAt
        obtain ⟨y, val⟩ := x
        obtain ⟨c0', u, c1', hOu⟩ := hat
        obtain ⟨ua, uc, rfl⟩ := hOu.shape
        have c0 := (hbw.cell (p := ⟨b, off + k * 2, none⟩) hblt).trans c0'
        have c1 := (hbw.cell (p := ⟨b, off + k * 2 + 1, none⟩) hblt).trans c1'
        simp only at c0 HAt hOu
        have hkf := (fun w2 (hb2 : Below w.heap.size w w2) => kindFault_any _ val vars false w2 (hOu.below hb2))
        have HKF := (show Hid _ from hkf)
        generalize val.length = vn at *
        have hbA := hbel.alloc hszb (.cells #[.int .i64 y, .slice ua vn uc] 45)
        have hbwA := (hA _).trans (hbA.mono (Nat.le_succ _))
        clear hx HJ' c0' c1' hOu hkf
        by_cases hy : y < 0 ∨ vars ≤ y
        · have HR : Hid (res = 2) := HHit.out 2 (HAt.out.1 hy) (by decide)
          have hin := fun w => in_any y 0 (vars - 1) w
          rw [decide_eq_false (show ¬ (0 ≤ y ∧ y ≤ vars - 1) by omega)] at hin
          clear HAt HStep HHit HKF HC HRF hy
          go_wp2_with (go_at_call 14; refine (hin _).mono ?_; rintro e w1 ⟨rfl, rfl⟩)
          go_ret
          rw [HR.out]
          exact ⟨rfl, hbwA⟩
        · have hin := fun w => in_any y 0 (vars - 1) w
          rw [decide_eq_true (show (0 ≤ y ∧ y ≤ vars - 1) by omega)] at hin
          have HY : Hid (¬ (y < 0 ∨ vars ≤ y)) := hy
          clear hy
          go_wp2_with (go_at_call 14; refine (hin _).mono ?_; rintro e w1 ⟨rfl, rfl⟩)
          generalize wr = wo at *
          go_loopw [8] (fun i wr => ∃ q : Nat, q ≤ k ∧ i = .int .i64 q ∧ Hid (∀ j, j < q → (l.getD j st0).var ≠ y) ∧ ∃ d, wr = (wo.alloc (.cells #[.int .i64 y, .slice ua vn uc] 45)).drewN d) (fun i _ => k - (intOf i).toNat)
          case atStart => exact ⟨0, Nat.zero_le _, rfl, fun j hj => by omega, 0, rfl⟩
          case round =>
            obtain ⟨q, hq, rfl, HQ, d, rfl⟩ := hrel
            have hAo : Below wo.heap.size wo (wo.alloc (.cells #[.int .i64 y, .slice ua vn uc] 45)) := (Below.refl wo.heap.size wo).alloc (Nat.le_refl _) _
            by_cases hqk : q < k
            · have cq' := HC.out q (by omega)
              have hbo : b < wo.heap.size := by omega
              have cq := (hAo.cell (p := ⟨b, off + q * 2, none⟩) hbo).trans cq'
              have cb2 := (hAo.cell (p := ⟨w.heap.size, 1, none⟩) hlb).trans cb
              have hq0 : (0 : Int) ≤ (q : Int) := Int.natCast_nonneg _
              have hqn : (q : Int) < (n : Int) := by omega
              by_cases heq : (l.getD q st0).var = y
              · have hmet : metVar l k y = true := by
                  simp only [metVar, List.any_eq_true, List.mem_range, decide_eq_true_eq]
                  exact ⟨q, hqk, heq⟩
                have HR : Hid (res = 7) := HHit.out 7 (HAt.out.2.1 HY.out hmet) (by decide)
                rw [heq] at cq cq'
                clear HAt HStep HHit HC HQ heq hmet cq' HKF HRF hAo
                go_wp2_with fail
                go_quiet (fail)
                go_wp2_with fail
                go_ret
                rw [HR.out]
                exact ⟨rfl, below_drewN (below_drewN hbwA _) _⟩
              · have HQ2 : Hid (∀ j, j < q + 1 → (l.getD j st0).var ≠ y) := fun j hj => by
                  by_cases hjq : j = q
                  · subst hjq; exact heq
                  · exact HQ.out j (by omega)
                have hne : ((l.getD q st0).var == y) = false := by simpa using heq
                generalize (l.getD q st0).var = y' at *
                clear HAt HStep HHit HC HQ heq cq' HKF HRF hAo
                go_wp2_with fail
                go_quiet (fail)
                go_wp2_with fail
                go_roundw
                case rel => exact ⟨q + 1, by omega, by go_num, HQ2, _, rfl⟩
                case measure => simp [intOf]; omega
            · have hqe : q = k := by omega
              have hmet : metVar l k y = false := by
                simp only [metVar, List.any_eq_false, List.mem_range, decide_eq_true_eq]
                intro j hj
                exact HQ.out j (by omega)
              have HA2 := (show Hid _ from HAt.out.2.2 HY.out hmet)
              have hkf := HKF.out _ (below_drewN hbwA d)
              have hbD := below_drewN hbA d
              obtain ⟨x, hx⟩ : ∃ x, kcode vars val false = x := ⟨_, rfl⟩
              rw [hx] at hkf HA2
              have HF2 : Hid ((x = 0 → g = 0 ∧ ∀ j, j < k + 1 → sAt vars l j = 0) ∧ (x ≠ 0 → res = x)) :=
                ⟨fun h0 => ⟨HG0.out, HStep.out (by rw [HA2.out, h0])⟩, fun h0 => HHit.out x HA2.out h0⟩
              clear HQ HC hqk HAt HStep HHit HKF HRF hmet hx HA2
              subst hqe
              go_wp2_with (go_at_call 43; refine hkf.mono ?_; rintro e w3 ⟨rfl, hb3⟩)
              go_roundw
              case rel => exact ⟨q + 1, x, hlt, by go_num, rfl, HF2, hbD.trans (hb3.mono (by have := hbD.size; simp at this ⊢; omega))⟩
              case measure => simp [intOf]; omega
      · have HR : Hid (res = 0) := by show _ = _; rw [HRF.out]; exact firstOf_none (fun j hj => HJ'.out j (by omega))
        clear HJ' HRF
        go_wp2
        go_ret
        rw [HR.out]
        exact ⟨rfl, hbw⟩
    · have HR : Hid (res = x) := HJ.out.2 hx
      clear HJ HRes
      by_cases hlt : k < n
      all_goals
        go_wp2
        go_ret
        rw [HR.out]
        exact ⟨rfl, hbw⟩
/-- THE CONTRACT OF ruleFault. -/
theorem rrule_any (gv sv : Value) (r : Ru) (vars : Int) (w : World) (hv0 : 0 ≤ vars) (hv6 : vars ≤ 6) (hG : OpsV w gv r.guard) (hS : SetsV w sv r.sets) :
    Calls Tryd.prog 31 #[.agg #[gv, sv], .int .i64 vars] w fun e w' => e = .returned (.int .i64 (rcode vars r)) ∧ Below w.heap.size w w' := by
  unfold rcode
  by_cases h6 : 6 < r.sets.length
  · rw [if_pos h6]
    obtain ⟨so, cap, rfl⟩ := hS.shape
    exact rrule_long gv so _ cap vars w h6
  · rw [if_neg h6]
    exact rrule_loop gv sv r vars w hv0 hv6 (by omega) hG hS
end Go.Proofs.YtnicbkkkecfdpaaDoor

/-
  The contract of the document's own ModelFault.
-/
namespace Go.Proofs.YtnicbkkkecfdpaaDoor
open Go.ChangeShapes Go.WideShapes Go.ChangeAt Go.RowKit Go.Deep
open Terms Tm

theorem rmodel_vars (va vr : Value) (m : Mo) (w : World) (hV : ModelV w va vr m) (h : vcode m.vars ≠ 0) :
    Calls Tryd.prog 21 #[.agg #[va, vr]] w fun e w' => e = .returned (.int .i64 (vcode m.vars)) ∧ Below w.heap.size w w' := by
  have hA : ∀ o, Below w.heap.size w (w.alloc o) := fun o => (Below.refl _ _).alloc (Nat.le_refl _) o
  have hcv := fun o => rvars_any va m.vars (w.alloc o) (hV.1.below (hA o))
  generalize vcode m.vars = x at *
  obtain ⟨ao, cap, rfl⟩ := hV.1.shape
  obtain ⟨ro, rc, rfl⟩ := hV.2.shape
  clear hV
  go_enter Tryd.func21, Tryd.ntmps21
  go_wp2_with (go_at_call 30; refine (hcv _).mono ?_; rintro e w1 ⟨rfl, hb1⟩)
  go_ret
  exact ⟨rfl, (hA _).trans (hb1.mono (hA _).size)⟩

theorem rmodel_long (va vr : Value) (m : Mo) (w : World) (hV : ModelV w va vr m) (h : vcode m.vars = 0) (h12 : 12 < m.rules.length) :
    Calls Tryd.prog 21 #[.agg #[va, vr]] w fun e w' => e = .returned (.int .i64 1) ∧ Below w.heap.size w w' := by
  have hA : ∀ o, Below w.heap.size w (w.alloc o) := fun o => (Below.refl _ _).alloc (Nat.le_refl _) o
  have hcv := fun o => rvars_any va m.vars (w.alloc o) (hV.1.below (hA o))
  rw [h] at hcv
  obtain ⟨ao, cap, rfl⟩ := hV.1.shape
  obtain ⟨ro, rc, rfl⟩ := hV.2.shape
  generalize m.rules.length = rn at *
  clear hV
  go_enter Tryd.func21, Tryd.ntmps21
  go_wp2_with (go_at_call 30; refine (hcv _).mono ?_; rintro e w1 ⟨rfl, hb1⟩; have hcb : w1.cell? ⟨w.heap.size, 1, none⟩ = some (.slice ro rn rc) := (hb1.cell (p := ⟨w.heap.size, 1, none⟩) (by simp)).trans (by simp [go_sem]))
  go_ret
  exact ⟨rfl, (hA _).trans (hb1.mono (hA _).size)⟩

set_option maxHeartbeats 3200000 in
theorem rmodel_loop (va vr : Value) (m : Mo) (w : World) (hV : ModelV w va vr m) (h : vcode m.vars = 0) (h12 : m.rules.length ≤ 12) :
    Calls Tryd.prog 21 #[.agg #[va, vr]] w fun e w' => e = .returned (.int .i64 (firstOf (fun i => rcode m.vars.length (m.rules.getD i ru0)) m.rules.length)) ∧ Below w.heap.size w w' := by
  have hA : ∀ o, Below w.heap.size w (w.alloc o) := fun o => (Below.refl _ _).alloc (Nat.le_refl _) o
  have hcv := fun o => rvars_any va m.vars (w.alloc o) (hV.1.below (hA o))
  have h6 := (varsOk_of h).1
  rw [h] at hcv
  obtain ⟨ao, cap, rfl⟩ := hV.1.shape
  obtain ⟨ro, rc, rfl⟩ := hV.2.shape
  generalize hl : m.rules = l at *
  have HS : Hid (RulesV w (.slice ro l.length rc) l) := by show RulesV _ _ _; rw [← hl]; rw [← hl] at hV; exact hV.2
  obtain ⟨n, hn⟩ : ∃ n, n = l.length := ⟨_, rfl⟩
  have HN : Hid (n = l.length) := hn
  rw [← hn] at h12 HS ⊢
  obtain ⟨vn, hvn⟩ : ∃ vn, vn = m.vars.length := ⟨_, rfl⟩
  rw [← hvn] at hcv h6 ⊢
  clear hV hn hl h hvn
  obtain ⟨f, hf⟩ : ∃ f : Nat → Int, f = fun i => rcode vn (l.getD i ru0) := ⟨_, rfl⟩
  rw [← hf]
  have HF : Hid (f = fun i => rcode vn (l.getD i ru0)) := hf
  clear hf
  go_enter Tryd.func21, Tryd.ntmps21
  go_wp2_with (go_at_call 30; refine (hcv _).mono ?_; rintro e w1 ⟨rfl, hb1⟩; have hcb : w1.cell? ⟨w.heap.size, 1, none⟩ = some (.slice ro n rc) := (hb1.cell (p := ⟨w.heap.size, 1, none⟩) (by simp)).trans (by simp [go_sem]))
  have hb1' : Below (w.heap.size + 1) (w.alloc (.cells #[.slice ao vn cap, .slice ro n rc] 25)) w1 := hb1.mono (by simp)
  clear hcv hcb hb1
  go_loopw [3, 4] (fun e i wr => ∃ (k : Nat) (x : Int), k ≤ n ∧ i = .int .i64 k ∧ e = .int .i64 x ∧ Hid ((x = 0 → ∀ j, j < k → f j = 0) ∧ (x ≠ 0 → firstOf f n = x)) ∧ Below (w.heap.size + 1) (w.alloc (.cells #[.slice ao vn cap, .slice ro n rc] 25)) wr) (fun _ i _ => n - (intOf i).toNat)
  case atStart => exact ⟨0, 0, Nat.zero_le _, rfl, rfl, ⟨fun _ j hj => by omega, fun h => absurd rfl h⟩, hb1'⟩
  case round =>
    obtain ⟨k, x, hk, rfl, rfl, HJ, hbel⟩ := hrel
    have hbw := (hA _).trans (hbel.mono (Nat.le_succ _))
    have hszb : w.heap.size + 1 ≤ wr.heap.size := by have := hbel.size; simp at this; omega
    have hlb : w.heap.size < wr.heap.size := by omega
    have cb0 := (hbel.cell (p := ⟨w.heap.size, 0, none⟩) (by simp)).trans (show _ = some (.slice ao vn cap) by simp [go_sem])
    have cb := (hbel.cell (p := ⟨w.heap.size, 1, none⟩) (by simp)).trans (show _ = some (.slice ro n rc) by simp [go_sem])
    clear hb1'
    by_cases hx : x = 0
    · subst hx
      have HJ' := (show Hid _ from HJ.out.1 rfl)
      clear HJ
      by_cases hlt : k < n
      · obtain ⟨b, off, rfl, hblt, hat⟩ := HS.out.at (i := k) (by rw [← HN.out]; exact hlt)
        obtain ⟨⟨u, c0', hO⟩, s, c1', hS⟩ := hat
        have HFk : Hid (f k = rcode vn (l.getD k ru0)) := by show _ = _; rw [HF.out]
        generalize l.getD k ru0 = r at *
        obtain ⟨ua, uc, rfl⟩ := hO.shape
        obtain ⟨sa, sc, rfl⟩ := hS.shape
        have c0 := (hbw.cell (p := ⟨b, off + k * 2, none⟩) hblt).trans c0'
        have c1 := (hbw.cell (p := ⟨b, off + k * 2 + 1, none⟩) hblt).trans c1'
        have hrr := (fun w2 (hb2 : Below wr.heap.size wr w2) => rrule_any _ _ r vn w2 (by omega) (by omega) (hO.below (hbw.trans (hb2.mono hbw.size))) (hS.below (hbw.trans (hb2.mono hbw.size))))
        generalize r.guard.length = gn at *
        generalize r.sets.length = sn at *
        obtain ⟨x, hx⟩ : ∃ x, rcode vn r = x := ⟨_, rfl⟩
        rw [hx] at hrr HFk
        have HF2 : Hid ((x = 0 → ∀ j, j < k + 1 → f j = 0) ∧ (x ≠ 0 → firstOf f n = x)) := by
          refine ⟨fun h0 j hj => ?_, fun h0 => ?_⟩
          · by_cases hjk : j = k
            · subst hjk; rw [HFk.out, h0]
            · exact HJ'.out j (by omega)
          · rw [firstOf_hit hlt HJ'.out (by rw [HFk.out]; exact h0), HFk.out]
        have hbo : b < wr.heap.size := by omega
        have hS0 : ∀ w', Below wr.heap.size wr w' → w'.cell? ⟨w.heap.size, 0, none⟩ = some (.slice ao vn cap) ∧ w'.cell? ⟨w.heap.size, 1, none⟩ = some (.slice (some ⟨b, off, none⟩) n rc) ∧ w'.cell? ⟨b, off + k * 2, none⟩ = some (.slice ua gn uc) ∧ w'.cell? ⟨b, off + k * 2 + 1, none⟩ = some (.slice sa sn sc) ∧ Below wr.heap.size wr w' := fun w' hw' =>
          ⟨(hw'.cell (p := ⟨w.heap.size, 0, none⟩) hlb).trans cb0, (hw'.cell (p := ⟨w.heap.size, 1, none⟩) hlb).trans cb, (hw'.cell (p := ⟨b, off + k * 2, none⟩) hbo).trans c0, (hw'.cell (p := ⟨b, off + k * 2 + 1, none⟩) hbo).trans c1, hw'⟩
        have hB0 : Below wr.heap.size wr wr := Below.refl _ _
        have hi0 : (0 : Int) ≤ (k : Int) := Int.natCast_nonneg _
        have hi1 : (k : Int) < (n : Int) := by omega
        clear HJ' c0' c1' hO hS hx hA HF HFk hbw
        go_wp2_with fail
        go_region_held3 (fun w' => w'.cell? ⟨w.heap.size, 0, none⟩ = some (.slice ao vn cap) ∧ w'.cell? ⟨w.heap.size, 1, none⟩ = some (.slice (some ⟨b, off, none⟩) n rc) ∧ w'.cell? ⟨b, off + k * 2, none⟩ = some (.slice ua gn uc) ∧ w'.cell? ⟨b, off + k * 2 + 1, none⟩ = some (.slice sa sn sc) ∧ Below wr.heap.size wr w')
          (exact hS0 _ (by first | exact hB0 | exact hB0.drew | exact hB0.drew.trans hb2))
          (first | (go_at_call 31; refine (hrr _ hB0.drew).mono ?_; rintro e w2 ⟨rfl, hb2⟩))
        go_wp2_with fail
        go_roundw
        case rel => exact ⟨k + 1, x, hlt, by go_num, rfl, HF2, hbel.trans ((hB0.drew.trans hb2).mono hszb)⟩
        case measure => simp [intOf]; omega
      · have HR : Hid (firstOf f n = 0) := firstOf_none (fun j hj => HJ'.out j (by omega))
        clear HJ'
        go_wp2
        go_ret
        rw [HR.out]
        exact ⟨rfl, hbw⟩
    · have HR : Hid (firstOf f n = x) := HJ.out.2 hx
      clear HJ
      by_cases hlt : k < n
      all_goals
        go_wp2
        go_ret
        rw [HR.out]
        exact ⟨rfl, hbw⟩

/-- THE CONTRACT OF ModelFault. -/
theorem rmodel_any (va vr : Value) (m : Mo) (w : World) (hV : ModelV w va vr m) :
    Calls Tryd.prog 21 #[.agg #[va, vr]] w fun e w' => e = .returned (.int .i64 (mcode m)) ∧ Below w.heap.size w w' := by
  unfold mcode
  by_cases h : vcode m.vars = 0
  · rw [if_pos h]
    by_cases h12 : 12 < m.rules.length
    · rw [if_pos h12]
      exact rmodel_long va vr m w hV h h12
    · rw [if_neg h12]
      exact rmodel_loop va vr m w hV h (by omega)
  · rw [if_neg h]
    exact rmodel_vars va vr m w hV h
end Go.Proofs.YtnicbkkkecfdpaaDoor

/-
  The contracts of the program's Props, of the document's PropsFault, and of the laws' own terms.
-/
namespace Go.Proofs.YtnicbkkkecfdpaaDoor
open Go.ChangeShapes Go.WideShapes Go.ChangeAt Go.RowKit Go.Deep
open Terms Tm

set_option maxRecDepth 20000 in
theorem TermsV.shape {w : World} {v : Value} {ts : List (List (Int × Int))} (h : TermsV w v ts) : ∃ ao cap, v = .slice ao ts.length cap := by
  obtain ⟨ao, cap, h1, _⟩ := h
  exact ⟨ao, cap, h1⟩
set_option maxRecDepth 20000 in
theorem TermsV.at {w : World} {ao : Option Addr} {cap n : Nat} {ts : List (List (Int × Int))} (h : TermsV w (.slice ao n cap) ts) {i : Nat} (hi : i < ts.length) : ∃ b off, ao = some ⟨b, off, none⟩ ∧ b < w.heap.size ∧ ∃ u, w.cell? ⟨b, off + i, none⟩ = some u ∧ OpsV w u (ts.getD i []) := by
  obtain ⟨ao', cap', h1, h3⟩ := h
  injection h1 with e1 e2 e3
  subst e1
  obtain ⟨b, off, e, hb, hh⟩ := h3 (by intro h; subst h; simp at hi)
  exact ⟨b, off, e, hb, hh i hi⟩

end Go.Proofs.YtnicbkkkecfdpaaDoor

/-
  Slices of truths; the contract of the laws' own sameTruths.
-/
namespace Go.Proofs.YtnicbkkkecfdpaaDoor
open Go.ChangeShapes Go.WideShapes Go.ChangeAt Go.RowKit Go.Deep
open Terms

theorem infoBool : (Tryd.prog.info? 4).map (fun i => (i.zero, i.size, i.bytes)) = some (some (.bool false), 1, 1) := by kernel_rfl
/-- a slice of truths. -/
def BoolsAt (w : World) (b off : Nat) (l : List Bool) : Prop := ∀ i, i < l.length → w.cell? ⟨b, off + i, none⟩ = some (.bool (l.getD i false))
def BoolsV (w : World) (v : Value) (l : List Bool) : Prop := ∃ ao cap, v = .slice ao l.length cap ∧ (l ≠ [] → ∃ b off, ao = some ⟨b, off, none⟩ ∧ b < w.heap.size ∧ BoolsAt w b off l)
theorem BoolsV.below {w w' : World} {v : Value} {l : List Bool} (h : BoolsV w v l) (hb : Below w.heap.size w w') : BoolsV w' v l := by
  obtain ⟨ao, cap, rfl, h⟩ := h
  refine ⟨ao, cap, rfl, fun hne => ?_⟩
  obtain ⟨b, off, rfl, hlt, hat⟩ := h hne
  exact ⟨b, off, rfl, Nat.lt_of_lt_of_le hlt hb.size, fun i hi => (hb.cell (p := ⟨b, _, none⟩) hlt).trans (hat i hi)⟩
def bvals (l : List Bool) : List Value := l.map fun x => .bool x
theorem boolsV_of_owns {w : World} {base : Nat} {v : Value} {l : List Bool} (h : w.ownsRow base 4 1 v l.length (bvals l)) : BoolsV w v l := by
  rcases h.2 with ⟨rfl, h0⟩ | ⟨g, cap, cur, rfl, hb, hg, hnc, hcm, hcs, htake⟩
  · have : l = [] := by simpa using h0
    subst this
    exact ⟨none, 0, rfl, fun h => absurd rfl h⟩
  · refine ⟨_, cap, rfl, fun _ => ⟨g, 0, rfl, (Array.getElem?_eq_some_iff.1 hg).1, fun i hi => ?_⟩⟩
    rw [Nat.zero_add, h.cellAt i (by omega)]
    simp [bvals, List.getD_eq_getElem?_getD, hi]
theorem boolsV_of_row {w : World} {B : Nat} {l : List Bool} (h : w.rowIs B 4 l.length (fun j => .bool (l.getD j false))) : BoolsV w (.slice (some ⟨B, 0, none⟩) l.length l.length) l :=
  ⟨some ⟨B, 0, none⟩, l.length, rfl, fun _ => ⟨B, 0, rfl, h.lt, fun i hi => by rw [Nat.zero_add, h.cell hi]⟩⟩

end Go.Proofs.YtnicbkkkecfdpaaDoor

/-
  The contract of step.Letter.
-/
namespace Go.Proofs.YtnicbkkkecfdpaaDoor
open Go.ChangeShapes Go.WideShapes Go.ChangeAt Go.RowKit Go.Deep
open Terms Tm

/-- what Letter answers. -/
noncomputable def letC (m : Mo) (ps : List (List (Int × Int))) (code : Int) : Int := if pcode m ps = 0 then wcode m code else pcode m ps
noncomputable def letL (m : Mo) (ps : List (List (Int × Int))) (code : Int) : List Bool := if letC m ps code = 0 then ps.map (fun p => holdsB p (valsL m.vars code)) else []
/-- a slice's row has elements of that type. -/
def RowTy (w : World) (v : Value) (t : TypeId) : Prop := ∀ a n c, v = .slice (some a) n c → ∃ cs fr, w.heap[a.block]? = some (.cells cs t fr)
theorem RowTy.nil (w : World) (t : TypeId) : RowTy w (.slice none 0 0) t := fun a n c e => by simp at e
theorem pcode_m {m : Mo} {ps : List (List (Int × Int))} (h : pcode m ps = 0) : mcode m = 0 ∧ ps.length ≤ 6 := by
  unfold pcode at h
  split at h
  · rename_i h1
    split at h
    · simp at h
    · exact ⟨h1, by omega⟩
  · rename_i h1; exact absurd h h1
theorem wcode_bare {m : Mo} (code : Int) (h : mcode m = 0) : wcode ⟨m.vars, []⟩ code = wcode m code := by
  unfold wcode
  rw [if_pos h, if_pos (mcode_bare h)]

end Go.Proofs.YtnicbkkkecfdpaaDoor

/-
  The contracts of step.nextOf and step.Next.
-/
namespace Go.Proofs.YtnicbkkkecfdpaaDoor
open Go.ChangeShapes Go.WideShapes Go.ChangeAt Go.RowKit Go.Deep
open Terms Tm

/-- numbers in a row of one's own, in a slice that is not nil. -/
def OwnI (base : Nat) (w : World) (v : Value) (l : List Int) : Prop := w.ownsRow base 3 1 v l.length (ivals l) ∧ v ≠ .slice none 0 0
theorem OwnI.form {base : Nat} {w : World} {v : Value} {l : List Int} (h : OwnI base w v l) : ∃ g cap, v = .slice (some ⟨g, 0, none⟩) l.length cap ∧ base ≤ g ∧ g < w.heap.size := by
  rcases h.1.2 with ⟨e0, _⟩ | ⟨g, cap, cur, rfl, hb, hg, _⟩
  · exact absurd e0 h.2
  · exact ⟨g, cap, rfl, hb, (Array.getElem?_eq_some_iff.1 hg).1⟩

set_option maxHeartbeats 3200000 in
set_option maxRecDepth 20000 in
/-- THE CONTRACT OF nextOf. -/
theorem nextOf_own (va vr : Value) (m : Mo) (code : Int) (w : World) (hB : 0 < w.heap.size) (hT : TabAt w) (hV : ModelV w va vr m) (hm : mcode m = 0) :
    Calls Tryd.prog 28 #[.agg #[va, vr], .int .i64 code] w fun e w' => ∃ v, e = .returned (.tuple #[v, .int .i64 (wcode m code)]) ∧ Below w.heap.size w w' ∧ IntsV w' v (nxtL m code) ∧ w'.ownsRow w.heap.size 3 1 v (nxtL m code).length (ivals (nxtL m code)) := by
  have hA : ∀ o, Below w.heap.size w (w.alloc o) := fun o => (Below.refl _ _).alloc (Nat.le_refl _) o
  have hVb : ∀ w', Below w.heap.size w w' → ∀ ao cap, va = .slice ao m.vars.length cap → ModelV w' (.slice ao m.vars.length cap) (.slice none 0 0) ⟨m.vars, []⟩ := fun w' hb ao cap e => ⟨e ▸ hV.1.below hb, ⟨none, 0, rfl, ⟨by simp, fun _ => ⟨rfl, rfl⟩⟩, fun h => by simp at h⟩⟩
  obtain ⟨ao, cap, rfl⟩ := hV.1.shape
  obtain ⟨ro, rc, hro⟩ := hV.2.shape
  have hba := fun w => bare_any ao ro m.vars.length cap m.rules.length rc w
  by_cases hw : wcode m code = 0
  · have hvl : ∀ w', Below w.heap.size w w' → Calls Tryd.prog 37 #[.agg #[.slice ao m.vars.length cap, .slice none 0 0], .int .i64 code] w' fun e w2 => ∃ B, e = .returned (.tuple #[.slice (some ⟨B, 0, none⟩) (valsL m.vars code).length (valsL m.vars code).length, .int .i64 0]) ∧ w'.heap.size ≤ B ∧ Below w'.heap.size w' w2 ∧ w2.rowIs B 3 (valsL m.vars code).length (fun j => .int .i64 ((valsL m.vars code).getD j 0)) := fun w' hb =>
      svalues_any _ _ ⟨m.vars, []⟩ code w' (Nat.lt_of_lt_of_le hB hb.size) (hT.below hb hB) (hVb w' hb ao cap rfl) (by rw [wcode_bare _ hm]; exact hw)
    obtain ⟨hr12, hrs⟩ := mcode_rules hm
    have HDo : Hid (∀ w' (_ : Below w.heap.size w w') B k gv sv, k < m.rules.length → w'.rowIs B 3 (valsL m.vars code).length (fun j => .int .i64 ((valsL m.vars code).getD j 0)) → OpsV w' gv (m.rules.getD k ru0).guard → SetsV w' sv (m.rules.getD k ru0).sets → Calls Tryd.prog 39 #[.agg #[.slice ao m.vars.length cap, vr], .slice (some ⟨B, 0, none⟩) (valsL m.vars code).length (valsL m.vars code).length, .agg #[gv, sv]] w' fun e w2 => e = .returned (.tuple #[.int .i64 (optN (ruleDo m.vars (valsL m.vars code) (m.rules.getD k ru0))), .int .i64 (optC (ruleDo m.vars (valsL m.vars code) (m.rules.getD k ru0)))]) ∧ Below w'.heap.size w' w2) := fun w' hb B k gv sv hk hrow hg hs =>
      doRule_any _ vr gv sv B m (valsL m.vars code) (m.rules.getD k ru0) w' (Nat.lt_of_lt_of_le hB hb.size) (hT.below hb hB) (hV.below hb) hm (hrs k hk) (valsL_length _ _) hrow hg hs
    have HR : Hid (RulesV w vr m.rules) := hV.2
    have HNL : Hid (nxtL m code = upL (if rawTo m.vars (valsL m.vars code) m.rules m.rules.length = [] then [code] else rawTo m.vars (valsL m.vars code) m.rules m.rules.length)) := by show _ = _; unfold nxtL nextL rawL; rw [if_pos hw]
    rw [hw]
    generalize nxtL m code = res at *
    generalize valsL m.vars code = env at *
    subst hro
    obtain ⟨rn, hrn⟩ : ∃ rn, rn = m.rules.length := ⟨_, rfl⟩
    have HRN : Hid (rn = m.rules.length) := hrn
    rw [← hrn] at hba HDo HR HNL hr12 ⊢
    obtain ⟨i0, hi, hz0, hz1, hz2⟩ := info_parts infoInt
    clear hV hT hVb hw hm hrs hrn
    generalize m.vars.length = n at *
    go_enter Tryd.func28, Tryd.ntmps28
    go_wp2_with (first | (go_at_call 38; refine (hba _).mono ?_; rintro e w1 ⟨rfl, hb1⟩; have hbw1 := (hA _).trans (hb1.mono (hA _).size); have k10 : w1.cell? ⟨w.heap.size, 0, none⟩ = some (.slice ao n cap) := (hb1.cell (p := ⟨w.heap.size, 0, none⟩) (by simp)).trans (by simp [go_sem]); have k11 : w1.cell? ⟨w.heap.size, 1, none⟩ = some (.slice ro rn rc) := (hb1.cell (p := ⟨w.heap.size, 1, none⟩) (by simp)).trans (by simp [go_sem]); have hs1 : w.heap.size < w1.heap.size := (by have := hb1.size; simp at this; omega)) | (go_at_call 37; refine (hvl _ hbw1).mono ?_; rintro e w2 ⟨B, rfl, hBl, hb2, hr2⟩; have k20 := (hb2.cell (p := ⟨w.heap.size, 0, none⟩) hs1).trans k10; have k21 := (hb2.cell (p := ⟨w.heap.size, 1, none⟩) hs1).trans k11; have hs2 := Nat.lt_of_lt_of_le hs1 hb2.size; have kA1 : ∀ o, (w2.alloc o).cell? ⟨w.heap.size, 1, none⟩ = some (.slice ro rn rc) := fun o => (((Below.refl w2.heap.size w2).alloc (Nat.le_refl _) o).cell (p := ⟨w.heap.size, 1, none⟩) hs2).trans k21))
    have hbw2 := hbw1.trans (hb2.mono hbw1.size)
    have hA2 : ∀ o, Below w2.heap.size w2 (w2.alloc o) := fun o => (Below.refl _ _).alloc (Nat.le_refl _) o
    have HRow : Hid (w2.rowIs B 3 env.length (fun j => .int .i64 (env.getD j 0))) := hr2
    have HB2 : Hid (Below w.heap.size w w2) := hbw2
    have HK2 : Hid (∀ w', Below w2.heap.size w2 w' → w'.cell? ⟨w.heap.size, 0, none⟩ = some (.slice ao n cap) ∧ w'.cell? ⟨w.heap.size, 1, none⟩ = some (.slice ro rn rc)) := fun w' hb => ⟨(hb.cell (p := ⟨w.heap.size, 0, none⟩) hs2).trans k20, (hb.cell (p := ⟨w.heap.size, 1, none⟩) hs2).trans k21⟩
    have HO0 : Hid (OwnI w2.heap.size (w2.alloc (.cells #[] 3)) (.slice (some ⟨w2.heap.size, 0, none⟩) 0 0) (rawTo m.vars env m.rules 0)) := ⟨World.ownsRow_lit w2 #[] 0 (Nat.le_refl _) (by decide) rfl, by simp⟩
    clear hvl hba hb1 hbw1 k10 k11 hs1 hb2 hr2 k20 k21 kA1 hbw2
    go_loopw [8, 27] (fun nx i wr => ∃ k : Nat, k ≤ rn ∧ i = .int .i64 k ∧ Hid (OwnI w2.heap.size wr nx (rawTo m.vars env m.rules k)) ∧ Hid (Below w2.heap.size w2 wr)) (fun _ i _ => rn - (intOf i).toNat)
    case atStart => exact ⟨0, Nat.zero_le _, rfl, HO0.out, hA2 _⟩
    case round =>
      obtain ⟨k, hk, rfl, HOwn, HBel⟩ := hrel
      have hbel := HBel.out
      have hbw := HB2.out.trans (hbel.mono HB2.out.size)
      obtain ⟨kr0, kr1⟩ := HK2.out wr hbel
      obtain ⟨g, gc, rfl, hg, hgl⟩ := HOwn.out.form
      have hown := HOwn.out.1
      by_cases hlt : k < rn
      · obtain ⟨b, off, rfl, hblt, hat⟩ := HR.out.at (i := k) (by rw [← HRN.out]; exact hlt)
        obtain ⟨⟨u, c0, hou⟩, u', c1, hsu⟩ := hat.below hbw hblt
        obtain ⟨uo, uc, rfl⟩ := hou.shape
        obtain ⟨so, sc, rfl⟩ := hsu.shape
        have hAr : ∀ o, Below wr.heap.size wr (wr.alloc o) := fun o => (Below.refl _ _).alloc (Nat.le_refl _) o
        have hkA0 : ∀ o, (wr.alloc o).cell? ⟨w.heap.size, 0, none⟩ = some (.slice ao n cap) := fun o => (HK2.out _ (hbel.trans ((hAr o).mono hbel.size))).1
        have hkA1 : ∀ o, (wr.alloc o).cell? ⟨w.heap.size, 1, none⟩ = some (.slice (some ⟨b, off, none⟩) rn rc) := fun o => (HK2.out _ (hbel.trans ((hAr o).mono hbel.size))).2
        have hdo := fun o => HDo.out (wr.alloc o) (hbw.trans ((hAr o).mono hbw.size)) B k _ _ hlt (row_later (row_later HRow.out hbel) (hAr o)) (hou.below (hAr o)) (hsu.below (hAr o))
        have HRl : Hid ((rawTo m.vars env m.rules k).length ≤ k) := rawTo_length _ _ _ _
        have hk' : k < m.rules.length := by rw [← HRN.out]; exact hlt
        generalize (m.rules.getD k ru0).guard.length = gl at *
        generalize (m.rules.getD k ru0).sets.length = sl at *
        obtain ⟨L, hL⟩ : ∃ L, L = (rawTo m.vars env m.rules k).length := ⟨_, rfl⟩
        have HL : Hid (L = (rawTo m.vars env m.rules k).length) := hL
        rw [← hL] at hown HRl ⊢
        cases hres : ruleDo m.vars env (m.rules.getD k ru0) with
        | none =>
          rw [hres] at hdo
          simp only [optN, optC] at hdo
          have HN : Hid (rawTo m.vars env m.rules (k + 1) = rawTo m.vars env m.rules k) := rawTo_none hk' hres
          have HW4 : Hid (∀ o w4, Below (wr.alloc o).heap.size (wr.alloc o) w4 → Below w2.heap.size w2 w4 ∧ OwnI w2.heap.size w4 (.slice (some ⟨g, 0, none⟩) L gc) (rawTo m.vars env m.rules k)) := fun o w4 hb => ⟨(hbel.alloc hbel.size o).trans (hb.mono (hbel.alloc hbel.size o).size), by
            refine ⟨?_, by simp⟩
            rw [← HL.out]
            exact owns_later (owns_later hown (hAr o) (Nat.le_refl _)) hb (Nat.le_refl _)⟩
          clear hat hou hsu HDo HR hres hk' hown hL
          go_wp2_with (go_at_call 39; refine (hdo _).mono ?_; rintro e w4 ⟨rfl, hb4⟩; obtain ⟨hb24, ho4⟩ := HW4.out _ w4 hb4)
          exact ⟨⟨k + 1, hlt, by first | rfl | simp, by rw [HN.out]; exact ho4, hb24⟩, by simp [intOf]; omega⟩
        | some x =>
          rw [hres] at hdo
          simp only [optN, optC] at hdo
          have HN : Hid (rawTo m.vars env m.rules (k + 1) = rawTo m.vars env m.rules k ++ [x]) := rawTo_some hk' hres
          have h63 : L + 1 ≤ maxLen := by have := HRl.out; unfold maxLen; omega
          have hkb : (L + 1) * 8 ≤ 140737488355328 := by have := HRl.out; omega
          clear hat hou hsu HDo HR hres hk' hL
          go_wp2_with (first | (go_at_call 39; refine (hdo _).mono ?_; rintro e w4 ⟨rfl, hb4⟩; have hb24 := (hbel.alloc hbel.size _).trans (hb4.mono (hbel.alloc hbel.size _).size); have hown4 := fun o => (owns_later (owns_later hown (hAr _) (Nat.le_refl _)) hb4 (Nat.le_refl _)).alloc o; have hbase : ∀ o, w2.heap.size ≤ (w4.alloc o).heap.size := (fun o => by have := hb24.size; simp; omega)) | (at_builtin; refine wpList_append_lies _ rfl (.tmp 40) (.tmp 42) 26 rfl w2.heap.size 3 i0 (.int .i64 0) 1 8 Tryd.underlying26 hi hz0 hz1 hz2 rfl (by decide) (.slice (some ⟨g, 0, none⟩) L gc) L _ rfl (hown4 _) ⟨w4.heap.size, 0, none⟩ 1 1 [.int .i64 x] rfl rfl (cell_one_new _ _ _) (by intro u hu; simp at hu; subst hu; rfl) (by decide) h63 hkb (hbase _) _ rfl ?_; intro g5 cp5 w5 hown5 hgrow5 hat5 hgl5))
          have hb25 : Below w2.heap.size w2 w5 := (hb24.alloc hb24.size _).grown hgrow5 (hbase _) (fun z hz => by have hgz : g = z := (by simpa [Value.ownBlock] using hz); rw [← hgz]; exact hg)
          have ho5 : OwnI w2.heap.size w5 (.slice (some ⟨g5, 0, none⟩) (L + 1) cp5) (rawTo m.vars env m.rules (k + 1)) := by
            refine ⟨?_, by simp⟩
            rw [HN.out, List.length_append, ← HL.out]
            rw [show ivals (rawTo m.vars env m.rules k ++ [x]) = ivals (rawTo m.vars env m.rules k) ++ [.int .i64 x] by simp [ivals]]
            exact hown5
          exact ⟨⟨k + 1, hlt, by first | rfl | simp, ho5, hb25⟩, by simp [intOf]; omega⟩
      · have hkn : k = rn := by omega
        subst hkn
        have HRl : Hid ((rawTo m.vars env m.rules k).length ≤ k) := rawTo_length _ _ _ _
        generalize rawTo m.vars env m.rules k = raw at *
        clear HDo HR HOwn kr0 kr1 hlt hk
        by_cases hraw : raw = []
        · have HRes : Hid (res = upL [code]) := by show _ = _; rw [HNL.out, if_pos hraw]
          subst hraw
          have hown0 : wr.ownsRow w2.heap.size 3 1 (.slice (some ⟨g, 0, none⟩) 0 gc) 0 [] := hown
          have hown4 := fun o => hown0.alloc o
          have hbase : ∀ o, w2.heap.size ≤ (wr.alloc o).heap.size := fun o => by have := hbel.size; simp; omega
          have hAr : ∀ o, Below wr.heap.size wr (wr.alloc o) := fun o => (Below.refl _ _).alloc (Nat.le_refl _) o
          clear hown HNL HRl
          simp only [List.length_nil]
          have hso := fun (w5 : World) g5 cp5 (ho : w5.ownsRow w2.heap.size 3 1 (.slice (some ⟨g5, 0, none⟩) 1 cp5) 1 (ivals [code])) => sort_own g5 cp5 w2.heap.size [code] w5 (by simp) ho
          have hms : [code].mergeSort leB = [code] := List.mergeSort_singleton _
          have HUp : Hid (Lib.compact [code] = upL [code]) := by show _ = Lib.compact _; rw [hms]
          rw [hms] at hso
          simp only [List.length_cons, List.length_nil, Nat.zero_add] at hso
          have hco := fun (w5 : World) g5 cp5 (ho : w5.ownsRow w2.heap.size 3 1 (.slice (some ⟨g5, 0, none⟩) 1 cp5) 1 (ivals [code])) => compact_own g5 cp5 w2.heap.size [code] w5 (by simp) ho
          simp only [List.length_cons, List.length_nil, Nat.zero_add] at hco
          rw [HUp.out] at hco
          go_wp2_with (first | (at_builtin; refine wpList_append_lies _ rfl (.tmp 48) (.tmp 50) 26 rfl w2.heap.size 3 i0 (.int .i64 0) 1 8 Tryd.underlying26 hi hz0 hz1 hz2 rfl (by decide) (.slice (some ⟨g, 0, none⟩) 0 gc) 0 _ rfl (hown4 _) ⟨wr.heap.size, 0, none⟩ 1 1 [.int .i64 code] rfl rfl (cell_one_new _ _ _) (by intro u hu; simp at hu; subst hu; rfl) (by decide) (by decide) (by decide) (hbase _) _ rfl ?_; intro g5 cp5 w5 hown5 hgrow5 hat5 hgl5; have hg5 : w2.heap.size ≤ g5 := (by rcases hat5 with h5 | h5; (have hgz : g = g5 := (by simpa [Value.ownBlock] using h5)); (rw [← hgz]; exact hg); (rw [h5]; exact hbase _))) | (go_at_call 40; refine (hso _ _ _ hown5).mono ?_; rintro e w6 ⟨rfl, hgr6, ho6⟩) | (go_at_call 41; refine (hco _ _ _ ho6).mono ?_; rintro e w7 ⟨rfl, hgr7, ho7⟩))
          have hb5 : Below w2.heap.size w2 w5 := (hbel.alloc hbel.size _).grown hgrow5 (hbase _) (fun z hz => by have hgz : g = z := (by simpa [Value.ownBlock] using hz); rw [← hgz]; exact hg)
          have hb7 : Below w2.heap.size w2 w7 := (hb5.grown hgr6 hb5.size (fun z hz => by rw [← Option.some.inj hz]; exact hg5)).grown hgr7 (Nat.le_trans hb5.size hgr6.size) (fun z hz => by rw [← Option.some.inj hz]; exact hg5)
          have hI7 : IntsV w7 (.slice (some ⟨g5, 0, none⟩) (upL [code]).length cp5) (upL [code]) := intsV_of_owns ho7
          go_ret2
          exact ⟨_, rfl, HB2.out.trans (hb7.mono HB2.out.size), by rw [HRes.out]; exact ⟨hI7, owns_mono ho7 HB2.out.size⟩⟩
        · have HRes : Hid (res = upL raw) := by show _ = _; rw [HNL.out, if_neg hraw]
          have hpos : 0 < raw.length := List.length_pos_iff.2 hraw
          have hso := sort_own g gc w2.heap.size raw wr (by have := HRl.out; omega) hown
          obtain ⟨L, hL⟩ : ∃ L, L = raw.length := ⟨_, rfl⟩
          have HL : Hid (L = raw.length) := hL
          have HLs : Hid ((raw.mergeSort leB).length = L) := by show _ = _; rw [List.length_mergeSort, hL]
          have hL12 : L ≤ 12 := by have := HRl.out; omega
          rw [← hL] at hso hpos ⊢
          clear hown HNL HRl hraw hL
          have HCo : Hid (∀ w5 : World, w5.ownsRow w2.heap.size 3 1 (.slice (some ⟨g, 0, none⟩) L gc) L (ivals (raw.mergeSort leB)) → Calls Tryd.prog 41 #[.slice (some ⟨g, 0, none⟩) L gc] w5 fun e w' => e = .returned (.slice (some ⟨g, 0, none⟩) (upL raw).length gc) ∧ w5.grownBy w' (some g) ∧ w'.ownsRow w2.heap.size 3 1 (.slice (some ⟨g, 0, none⟩) (upL raw).length gc) (upL raw).length (ivals (upL raw))) := fun w5 ho => by
            rw [← HLs.out] at ho ⊢
            exact compact_own g gc w2.heap.size (raw.mergeSort leB) w5 (by rw [HLs.out]; omega) ho
          go_wp2_with (first | (go_at_call 40; refine hso.mono ?_; rintro e w6 ⟨rfl, hgr6, ho6⟩; have hco := HCo.out w6 ho6) | (go_at_call 41; refine hco.mono ?_; rintro e w7 ⟨rfl, hgr7, ho7⟩))
          have hb7 : Below w2.heap.size w2 w7 := (hbel.grown hgr6 hbel.size (fun z hz => by rw [← Option.some.inj hz]; exact hg)).grown hgr7 (Nat.le_trans hbel.size hgr6.size) (fun z hz => by rw [← Option.some.inj hz]; exact hg)
          have hI7 : IntsV w7 (.slice (some ⟨g, 0, none⟩) (upL raw).length gc) (upL raw) := intsV_of_owns ho7
          go_ret2
          exact ⟨_, rfl, HB2.out.trans (hb7.mono HB2.out.size), by rw [HRes.out]; exact ⟨hI7, owns_mono ho7 HB2.out.size⟩⟩
  · have hvl := fun w' (hb : Below w.heap.size w w') => mvalues_any _ _ ⟨m.vars, []⟩ code w' (Nat.lt_of_lt_of_le hB hb.size) (hT.below hb hB) (hVb w' hb ao cap rfl)
    rw [wcode_bare _ hm] at hvl
    have hnl : nxtL m code = [] := by unfold nxtL; rw [if_neg hw]
    rw [hnl]
    subst hro
    generalize wcode m code = c at *
    generalize wvals ⟨m.vars, []⟩ code = vs at *
    generalize m.vars.length = n at *
    generalize m.rules.length = rn at *
    clear hV hT hVb hnl hm
    go_enter Tryd.func28, Tryd.ntmps28
    go_wp2_with (first | (go_at_call 38; refine (hba _).mono ?_; rintro e w2 ⟨rfl, hb2⟩; have hbw2 := (hA _).trans (hb2.mono (hA _).size)) | (go_at_call 37; refine (hvl _ hbw2).mono ?_; rintro e w3 ⟨v, rfl, hb3, _⟩))
    go_ret2
    exact ⟨_, rfl, hbw2.trans (hb3.mono hbw2.size), ⟨none, 0, rfl, fun h => absurd rfl h⟩, World.ownsRow_nil _ _ _ _⟩

theorem nextOf_any (va vr : Value) (m : Mo) (code : Int) (w : World) (hB : 0 < w.heap.size) (hT : TabAt w) (hV : ModelV w va vr m) (hm : mcode m = 0) :
    Calls Tryd.prog 28 #[.agg #[va, vr], .int .i64 code] w fun e w' => ∃ v, e = .returned (.tuple #[v, .int .i64 (wcode m code)]) ∧ Below w.heap.size w w' ∧ IntsV w' v (nxtL m code) :=
  (nextOf_own va vr m code w hB hT hV hm).mono fun _ _ ⟨v, h1, h2, h3, _⟩ => ⟨v, h1, h2, h3⟩

set_option maxHeartbeats 1600000 in
set_option maxRecDepth 20000 in
/-- THE CONTRACT OF Next. -/
theorem next_any (va vr : Value) (m : Mo) (code : Int) (w : World) (hB : 0 < w.heap.size) (hT : TabAt w) (hV : ModelV w va vr m) :
    Calls Tryd.prog 19 #[.agg #[va, vr], .int .i64 code] w fun e w' => ∃ v, e = .returned (.tuple #[v, .int .i64 (wcode m code)]) ∧ Below w.heap.size w w' ∧ IntsV w' v (nxtL m code) := by
  have hA : ∀ o, Below w.heap.size w (w.alloc o) := fun o => (Below.refl _ _).alloc (Nat.le_refl _) o
  have hch := fun o => mcheck_any va vr m (w.alloc o) (Nat.lt_of_lt_of_le hB (hA o).size) (hT.below (hA o) hB) (hV.below (hA o))
  by_cases hm : mcode m = 0
  · have hne := fun w' (hb : Below w.heap.size w w') => nextOf_any va vr m code w' (Nat.lt_of_lt_of_le hB hb.size) (hT.below hb hB) (hV.below hb) hm
    rw [hm] at hch
    obtain ⟨ao, cap, rfl⟩ := hV.1.shape
    obtain ⟨ro, rc, rfl⟩ := hV.2.shape
    generalize wcode m code = c at *
    generalize nxtL m code = res at *
    generalize m.vars.length = n at *
    generalize m.rules.length = rn at *
    clear hV hT hm
    go_enter Tryd.func19, Tryd.ntmps19
    go_wp2_with (first | (go_at_call 16; refine (hch _).mono ?_; rintro e w1 ⟨rfl, hb1⟩; have hbw1 := (hA _).trans (hb1.mono (hA _).size); have k10 : w1.cell? ⟨w.heap.size, 0, none⟩ = some (.slice ao n cap) := (hb1.cell (p := ⟨w.heap.size, 0, none⟩) (by simp)).trans (by simp [go_sem]); have k11 : w1.cell? ⟨w.heap.size, 1, none⟩ = some (.slice ro rn rc) := (hb1.cell (p := ⟨w.heap.size, 1, none⟩) (by simp)).trans (by simp [go_sem])) | (go_at_call 28; refine (hne _ hbw1).mono ?_; rintro e w2 ⟨v, rfl, hb2, hI2⟩))
    go_ret2
    exact ⟨_, rfl, hbw1.trans (hb2.mono hbw1.size), hI2⟩
  · have hw : wcode m code = mcode m := wcode_bad hm
    have hnl : nxtL m code = [] := by unfold nxtL; rw [if_neg (by rw [hw]; exact hm)]
    rw [hw, hnl]
    obtain ⟨ao, cap, rfl⟩ := hV.1.shape
    obtain ⟨ro, rc, rfl⟩ := hV.2.shape
    generalize mcode m = c at *
    generalize m.vars.length = n at *
    generalize m.rules.length = rn at *
    clear hV hT hw hnl
    go_enter Tryd.func19, Tryd.ntmps19
    go_wp2_with (go_at_call 16; refine (hch _).mono ?_; rintro e w1 ⟨rfl, hb1⟩)
    go_ret2
    exact ⟨_, rfl, (hA _).trans (hb1.mono (hA _).size), none, 0, rfl, fun h => absurd rfl h⟩
end Go.Proofs.YtnicbkkkecfdpaaDoor

/-
  step.Next hands its row as the caller's own.
-/
namespace Go.Proofs.YtnicbkkkecfdpaaDoor
open Go.ChangeShapes Go.WideShapes Go.ChangeAt Go.RowKit Go.Deep
open Terms Tm

set_option maxHeartbeats 1600000 in
set_option maxRecDepth 20000 in
/-- Next's list lies in memory of its own. -/
theorem next_own (va vr : Value) (m : Mo) (code : Int) (w : World) (hB : 0 < w.heap.size) (hT : TabAt w) (hV : ModelV w va vr m) (hm : mcode m = 0) :
    Calls Tryd.prog 19 #[.agg #[va, vr], .int .i64 code] w fun e w' => ∃ v, e = .returned (.tuple #[v, .int .i64 (wcode m code)]) ∧ Below w.heap.size w w' ∧ w'.ownsRow w.heap.size 3 1 v (nxtL m code).length (ivals (nxtL m code)) := by
  have hA : ∀ o, Below w.heap.size w (w.alloc o) := fun o => (Below.refl _ _).alloc (Nat.le_refl _) o
  have hch := fun o => mcheck_any va vr m (w.alloc o) (Nat.lt_of_lt_of_le hB (hA o).size) (hT.below (hA o) hB) (hV.below (hA o))
  have hne := fun w' (hb : Below w.heap.size w w') => nextOf_own va vr m code w' (Nat.lt_of_lt_of_le hB hb.size) (hT.below hb hB) (hV.below hb) hm
  rw [hm] at hch
  obtain ⟨ao, cap, rfl⟩ := hV.1.shape
  obtain ⟨ro, rc, rfl⟩ := hV.2.shape
  generalize wcode m code = c at *
  generalize nxtL m code = res at *
  generalize m.vars.length = n at *
  generalize m.rules.length = rn at *
  clear hV hT hm
  go_enter Tryd.func19, Tryd.ntmps19
  go_wp2_with (first | (go_at_call 16; refine (hch _).mono ?_; rintro e w1 ⟨rfl, hb1⟩; have hbw1 := (hA _).trans (hb1.mono (hA _).size); have k10 : w1.cell? ⟨w.heap.size, 0, none⟩ = some (.slice ao n cap) := (hb1.cell (p := ⟨w.heap.size, 0, none⟩) (by simp)).trans (by simp [go_sem]); have k11 : w1.cell? ⟨w.heap.size, 1, none⟩ = some (.slice ro rn rc) := (hb1.cell (p := ⟨w.heap.size, 1, none⟩) (by simp)).trans (by simp [go_sem])) | (go_at_call 28; refine (hne _ hbw1).mono ?_; rintro e w2 ⟨v, rfl, hb2, hI2, ho2⟩))
  go_ret2
  exact ⟨_, rfl, hbw1.trans (hb2.mono hbw1.size), owns_mono ho2 hbw1.size⟩
end Go.Proofs.YtnicbkkkecfdpaaDoor

/-
  The contract of verdict.allLead.
-/
namespace Go.Proofs.YtnicbkkkecfdpaaDoor
open Go.ChangeShapes Go.WideShapes Go.ChangeAt Go.RowKit Go.Deep Go.Maps
open Terms Tm

set_option maxRecDepth 20000 in
theorem keyedIV : Keyed Tryd.prog 3 := int_keyed Tryd.underlying3
set_option maxRecDepth 20000 in
theorem zeroStV (w : World) : (zeroValue 57).run Tryd.prog w = .ok (.agg #[.slice none 0 0]) w := by kernel_rfl
set_option maxRecDepth 20000 in
theorem keyIV {x : Int} (h : -9223372036854775808 ≤ x ∧ x ≤ 9223372036854775807) : keyOf Tryd.prog 3 (.int .i64 x) = some (.int .i64 x) := keyOf_int_mk Tryd.underlying3 (WalkArith.wf_i64 (by omega))
theorem IntsV.overMap {wr w' : World} {g : Nat} {v : Value} {l : List Int} (h : IntsV wr v l) (hm : ∃ es c, wr.heap[g]? = some (.map es c)) (hs : Sk g g wr w') : IntsV w' v l := by
  obtain ⟨ao, cap, rfl, h⟩ := h
  refine ⟨ao, cap, rfl, fun hne => ?_⟩
  obtain ⟨b, off, rfl, hlt, hat⟩ := h hne
  exact ⟨b, off, rfl, Nat.lt_of_lt_of_le hlt hs.size, fun i hi => hs.cell ⟨hm, hm⟩ (hat i hi)⟩
/-- an entry tells the next states. -/
def KnAt (wr : World) (m : Mo) (f : Lit → Option Value) : Prop := ∀ kl v, f kl = some v → ∃ c ao cap, kl = .int .i64 c ∧ v = .agg #[.slice ao (nextL m c).length cap] ∧ IntsV wr (.slice ao (nextL m c).length cap) (nextL m c)
/-- what is known. -/
def KnOk (wr : World) (g n : Nat) (m : Mo) : Prop := ∃ f, MapIs wr 3 g n f ∧ KnAt wr m f
theorem KnOk.lt {wr : World} {g n : Nat} {m : Mo} (h : KnOk wr g n m) : g < wr.heap.size := by obtain ⟨f, h1, _⟩ := h; exact h1.lt
theorem MapIs.more {w : World} {kt : TypeId} {b n k : Nat} {f : Lit → Option Value} (h : MapIs w kt b n f) (hk : n ≤ k) : MapIs w kt b k f := by
  obtain ⟨D, ⟨es, c, h1, h2, h3, h4⟩, h5⟩ := h
  exact ⟨D, ⟨es, c, h1, h2, Nat.le_trans h3 hk, h4⟩, h5⟩
theorem KnOk.below {wr w' : World} {g n : Nat} {m : Mo} (h : KnOk wr g n m) (hb : Below wr.heap.size wr w') : KnOk w' g (n + 1) m := by
  obtain ⟨f, h1, h2⟩ := h
  refine ⟨f, (h1.kept (hb.block _ h1.lt)).more (Nat.le_succ _), fun kl v hv => ?_⟩
  obtain ⟨c, ao, cap, e1, e2, e3⟩ := h2 kl v hv
  exact ⟨c, ao, cap, e1, e2, e3.below hb⟩
theorem KnOk.put {wr w3 w' : World} {g n : Nat} {m : Mo} {f : Lit → Option Value} {code : Int} {ao : Option Addr} {cap : Nat} (h1 : MapIs wr 3 g n f) (h2 : KnAt wr m f) (hb : Below wr.heap.size wr w3) (hg : w3.grownBy w' (some g))
    (hm : MapIs w' 3 g (n + 1) (fput f (.int .i64 code) (.agg #[.slice ao (nextL m code).length cap]))) (hI : IntsV w3 (.slice ao (nextL m code).length cap) (nextL m code)) : KnOk w' g (n + 1) m ∧ IntsV w' (.slice ao (nextL m code).length cap) (nextL m code) := by
  have hmm : ∃ es c, w3.heap[g]? = some (.map es c) := (h1.kept (hb.block _ h1.lt)).isMap
  have hs : Sk g g w3 w' := Sk.grown hg (.inl rfl)
  refine ⟨⟨_, hm, fun kl v hv => ?_⟩, hI.overMap hmm hs⟩
  by_cases hk : kl = .int .i64 code
  · subst hk
    rw [fput_same] at hv
    cases hv
    exact ⟨code, ao, cap, rfl, rfl, hI.overMap hmm hs⟩
  · rw [fput_other hk] at hv
    obtain ⟨c, ao', cap', e1, e2, e3⟩ := h2 kl v hv
    exact ⟨c, ao', cap', e1, e2, (e3.below hb).overMap hmm hs⟩

open Classical in
set_option maxHeartbeats 3200000 in
set_option maxRecDepth 20000 in
/-- THE CONTRACT OF allLead. -/
theorem allLead_any (va vr : Value) (m : Mo) (b off cap : Nat) (cs : List Int) (w : World) (hB : 0 < w.heap.size) (hT : TabAt w) (hV : ModelV w va vr m) (hm : mcode m = 0) (h2 : 2 ≤ cs.length) (hM : cs.length ≤ 1099511627776) (hcap : cs.length ≤ cap) (hb : b < w.heap.size) (hC : IntsAt w b off cs)
    (h0 : 0 ≤ cs.getD 0 0 ∧ cs.getD 0 0 < prodTo m.vars m.vars.length) :
    Calls Tryd.prog 10 #[.agg #[va, vr], .slice (some ⟨b, off, none⟩) cs.length cap] w fun e w' => e = .returned (.bool (decide (LeadsTo m cs (cs.length - 1)))) ∧ Below w.heap.size w w' := by
  obtain ⟨ao, ac, rfl⟩ := hV.1.shape
  obtain ⟨ro, rc, rfl⟩ := hV.2.shape
  have hP := (mcode_vars hm).prod (Nat.le_refl m.vars.length)
  obtain ⟨W1, hW1⟩ : ∃ W1, W1 = w.alloc (.cells #[.slice ao m.vars.length ac, .slice ro m.rules.length rc] 25) := ⟨_, rfl⟩
  have hb1 : Below w.heap.size w W1 := by rw [hW1]; exact (Below.refl _ _).alloc (Nat.le_refl _) _
  have hz1 : W1.heap.size = w.heap.size + 1 := by rw [hW1]; simp
  have HNe : Hid (∀ (w1 : World) (code : Int), Below (w.heap.size + 1) W1 w1 → (0 ≤ code ∧ code < prodTo m.vars m.vars.length) → Calls Tryd.prog 19 #[.agg #[.slice ao m.vars.length ac, .slice ro m.rules.length rc], .int .i64 code] w1 fun e w' => ∃ no nc, e = .returned (.tuple #[.slice no (nextL m code).length nc, .int .i64 0]) ∧ Below w1.heap.size w1 w' ∧ Hid (IntsV w' (.slice no (nextL m code).length nc) (nextL m code) ∧ ∀ a, no = some a → w1.heap.size ≤ a.block)) := fun w1 code h hcr => by
    have h0 := hb1.trans (h.mono (Nat.le_succ _))
    refine (next_own _ _ m code w1 (Nat.lt_of_lt_of_le hB h0.size) (hT.below h0 hB) (hV.below h0) hm).mono fun e w' ⟨v, q1, q2, q3⟩ => ?_
    have q4 := intsV_of_owns q3
    rw [nxtL_yes hm hcr] at q4
    obtain ⟨no, nc, rfl, hx⟩ := q4
    refine ⟨no, nc, by rw [q1, wcode_yes hm hcr], q2, ⟨no, nc, rfl, hx⟩, fun a e => ?_⟩
    rcases q3.2 with ⟨e3, _⟩ | ⟨g', cap', cur', e3, e4, _⟩
    · rw [e] at e3; cases e3
    · rw [e] at e3
      injection e3 with e3 _ _
      injection e3 with e3
      rw [e3]
      exact e4
  have HCo : Hid (∀ (w1 : World) (no : Option Addr) (nc : Nat) (code x : Int), (0 ≤ code ∧ code < prodTo m.vars m.vars.length) → IntsV w1 (.slice no (nextL m code).length nc) (nextL m code) → Calls Tryd.prog 20 #[.slice no (nextL m code).length nc, .int .i64 x] w1 fun e w' => e = .returned (.bool (decide (x ∈ nextL m code))) ∧ w' = w1) := fun w1 no nc code x hcr hI => containsV_any no nc (nextL m code) x w1 (by have := nxtL_length m code; rw [nxtL_yes hm hcr] at this; have h9 := (mcode_rules hm); omega) hI
  have HBx : Hid (∀ w1, Below (w.heap.size + 1) W1 w1 → w1.cell? ⟨w.heap.size, 0, none⟩ = some (.slice ao m.vars.length ac) ∧ w1.cell? ⟨w.heap.size, 1, none⟩ = some (.slice ro m.rules.length rc)) := fun w1 h => by
    have hl : w.heap.size < w.heap.size + 1 := Nat.lt_succ_self _
    exact ⟨(h.cell (p := ⟨w.heap.size, 0, none⟩) hl).trans (by rw [hW1]; simp [go_sem]), (h.cell (p := ⟨w.heap.size, 1, none⟩) hl).trans (by rw [hW1]; simp [go_sem])⟩
  have HCs : Hid (∀ w1, Below (w.heap.size + 1) W1 w1 → ∀ i, i < cs.length → w1.cell? ⟨b, off + i, none⟩ = some (.int .i64 (cs.getD i 0))) := fun w1 h i hi => ((hb1.trans (h.mono (Nat.le_succ _))).cell (p := ⟨b, off + i, none⟩) hb).trans (hC i hi)
  have HRg : Hid (∀ k, LeadsTo m cs k → 0 ≤ cs.getD k 0 ∧ cs.getD k 0 < prodTo m.vars m.vars.length) := fun k h => h.range hm h0
  have HNo : Hid (∀ k, k + 1 < cs.length → (0 ≤ cs.getD k 0 ∧ cs.getD k 0 < prodTo m.vars m.vars.length) → cs.getD (k + 1) 0 ∉ nextL m (cs.getD k 0) → decide (LeadsTo m cs (cs.length - 1)) = false) := fun k hk hr hn => decide_eq_false fun h => hn (by have := h k (by omega); rw [nxtL_yes hm hr] at this; exact this)
  have HYs : Hid (∀ k, LeadsTo m cs k → cs.getD (k + 1) 0 ∈ nextL m (cs.getD k 0) → LeadsTo m cs (k + 1)) := fun k h h2 => h.succ (by rw [nxtL_yes hm (h.range hm h0)]; exact h2)
  have HRes : Hid (∀ k, LeadsTo m cs k → k = cs.length - 1 → decide (LeadsTo m cs (cs.length - 1)) = true) := fun k h e => by rw [← e]; exact decide_eq_true h
  have HK0 : Hid (∀ w1 : World, KnOk (w1.alloc (.map #[] 0)) w1.heap.size 0 m) := fun w1 => ⟨fun _ => none, MapIs.new _ (MapKept.heap_alloc w1 _).1, fun kl v h => by cases h⟩
  have HPut : Hid (∀ (w1 : World) (g n : Nat) (f : Lit → Option Value) (code : Int) (v : Value), MapIs w1 3 g n f → n ≤ 1099511627776 → (0 ≤ code ∧ code < prodTo m.vars m.vars.length) → ∃ w', (Instr.mapUpdate 55 (.map (some g)) (.int .i64 code) v).run Tryd.prog w1 = .ok () w' ∧ MapIs w' 3 g (n + 1) (fput f (.int .i64 code) v) ∧ w1.grownBy w' (some g)) := fun w1 g n f code v h hn hcr => h.put keyedIV Tryd.underlying55 (by unfold maxLen; omega) (val := v) (keyIV (by omega)) (by simp [WideAt.IsKeyLit])
  have HLk : Hid (∀ (w1 : World) (g n : Nat) (f : Lit → Option Value) (code : Int), MapIs w1 3 g n f → (0 ≤ code ∧ code < prodTo m.vars m.vars.length) → (Instr.lookup 55 (.map (some g)) (.int .i64 code) true).run Tryd.prog w1 = .ok (.tuple #[(f (.int .i64 code)).getD (.agg #[.slice none 0 0]), .bool (f (.int .i64 code)).isSome]) w1) := fun w1 g n f code h hcr => h.look keyedIV Tryd.underlying55 (zeroStV _) (keyIV (by omega))
  generalize decide (LeadsTo m cs (cs.length - 1)) = res at *
  obtain ⟨n, hn⟩ : ∃ n, n = cs.length := ⟨_, rfl⟩
  have HN : Hid (n = cs.length) := hn
  rw [← hn] at h2 hM hcap HCs HNo HRes ⊢
  generalize m.vars.length = vn at *
  generalize m.rules.length = rn at *
  have hc1 : ¬ cap = 1 := by omega
  have HKs : Hid (KnOk (W1.alloc (.map #[] 0)) (w.heap.size + 1) 0 m) := by have h := HK0.out W1; rw [hz1] at h; exact h
  have HBs : Hid (Below (w.heap.size + 1) W1 (W1.alloc (.map #[] 0))) := (Below.refl _ _).alloc (by omega) _
  have HBe : Hid (∀ w1, Below (w.heap.size + 1) W1 w1 → Below w.heap.size w w1) := fun w1 h => hb1.trans (h.mono (Nat.le_succ _))
  have HBn : Hid (∀ (wr : World) (v : Value) (w' : World), Below (wr.heap.size + 1) (wr.alloc (.cells #[v] 57)) w' → Below wr.heap.size wr w' ∧ w'.cell? ⟨wr.heap.size, 0, none⟩ = some v ∧ w'.frozen? ⟨wr.heap.size, 0, none⟩ = false) := fun wr v w' h => by
    have hl : wr.heap.size < wr.heap.size + 1 := Nat.lt_succ_self _
    exact ⟨((Below.refl _ _).alloc (Nat.le_refl _) _).trans (h.mono (Nat.le_succ _)), (h.cell (p := ⟨wr.heap.size, 0, none⟩) hl).trans (by simp [go_sem]), (h.frozen (p := ⟨wr.heap.size, 0, none⟩) hl).trans (by simp [go_sem])⟩
  clear hT hV hC h0 hn hm hP HK0
  have hmm := @run_makeMap Tryd.prog
  go_enter Tryd.func10, Tryd.ntmps10
  go_wp2_with fail
  rw [← hW1]
  clear hW1 hz1 hb1
  obtain ⟨p, hp⟩ : ∃ p, n - 1 = p := ⟨_, rfl⟩
  rw [hp]
  have HPn : Hid (n = p + 1) := by show _ = _; omega
  have hpM : p ≤ 1099511627776 := by omega
  rw [hp] at HRes
  clear hp
  go_loopw [17] (fun i wr => ∃ k : Nat, k ≤ p ∧ i = .int .i64 (k : Int) ∧ Hid (LeadsTo m cs k) ∧ Hid (KnOk wr (w.heap.size + 1) k m) ∧ Hid (Below (w.heap.size + 1) W1 wr)) (fun i _ => p - (intOf i).toNat)
  case atStart => exact ⟨0, Nat.zero_le _, rfl, LeadsTo.zero _ _, HKs, HBs⟩
  case round =>
    obtain ⟨k, hk, rfl, HL, HK, HBl⟩ := hrel
    by_cases hlt : k < p
    · obtain ⟨f, hf, hfa⟩ := HK.out
      have hbl := HBl.out
      have hws : w.heap.size + 1 ≤ wr.heap.size := Nat.le_of_lt HK.out.lt
      have hrg := HRg.out k HL.out
      have hpn := HPn.out
      have c0 := HCs.out wr hbl k (by omega)
      have c1 : wr.cell? ⟨b, off + 1 + k, none⟩ = _ := (congrArg (fun j => wr.cell? ⟨b, j, none⟩) (by omega : off + 1 + k = off + (k + 1))).trans (HCs.out wr hbl (k + 1) (by omega))
      have hlk := HLk.out wr _ _ f _ hf hrg
      have HNx : Hid _ := HNo.out k (by omega) hrg
      have HYx : Hid _ := HYs.out k HL.out
      have hki : (k : Int) < (p : Int) := by omega
      have hki2 : (k : Int) < (n : Int) := by omega
      clear hpn HL
      generalize cs.getD k 0 = x at *
      generalize cs.getD (k + 1) 0 = y at *
      have HF : Hid (MapIs wr 3 (w.heap.size + 1) k f ∧ KnAt wr m f) := ⟨hf, hfa⟩
      cases hfx : f (.int .i64 x) with
      | some v =>
        obtain ⟨c, no, nc, e1, e2, hI⟩ := hfa _ _ hfx
        injection e1 with _ e1
        subst e1 e2
        rw [hfx] at hlk
        simp only [Option.getD_some, Option.isSome_some] at hlk
        have hB3 : Below wr.heap.size wr (wr.alloc (.cells #[.slice no (nextL m x).length nc] 57)) := (Below.refl _ _).alloc (Nat.le_refl _) _
        have hco := HCo.out _ no nc x y hrg (hI.below hB3)
        have HKn : Hid (KnOk (wr.alloc (.cells #[.slice no (nextL m x).length nc] 57)) (w.heap.size + 1) (k + 1) m) := HK.out.below hB3
        have HB4 : Hid (Below (w.heap.size + 1) W1 (wr.alloc (.cells #[.slice no (nextL m x).length nc] 57))) := hbl.trans (hB3.mono hws)
        clear hf hfa hfx hI hB3 HK HF
        generalize (nextL m x).length = nn at *
        by_cases hy : y ∈ nextL m x
        · rw [decide_eq_true hy] at hco
          have HY : Hid (LeadsTo m cs (k + 1)) := HYx.out hy
          clear hy hrg HNx
          go_wp2_with (go_at_call 20; refine hco.mono ?_; rintro e w4 ⟨rfl, rfl⟩)
          go_roundw
          case rel => exact ⟨k + 1, by omega, by go_num, HY, HKn, HB4⟩
          case measure => simp [intOf]; omega
        · rw [decide_eq_false hy] at hco
          have HR : Hid (res = false) := HNx.out hy
          clear hy hrg HYx
          go_wp2_with (go_at_call 20; refine hco.mono ?_; rintro e w4 ⟨rfl, rfl⟩)
          go_ret
          exact ⟨by rw [HR.out]; rfl, HBe.out _ HB4.out⟩
      | none =>
        rw [hfx] at hlk
        simp only [Option.getD_none, Option.isSome_none] at hlk
        have hB2 : Below wr.heap.size wr (wr.alloc (.cells #[.slice none 0 0] 57)) := (Below.refl _ _).alloc (Nat.le_refl _) _
        have hbl2 := hbl.trans (hB2.mono hws)
        have hne := HNe.out _ x hbl2 hrg
        obtain ⟨m0, m1⟩ := HBx.out _ hbl2
        have HNw := HBn.out wr (.slice none 0 0)
        have hszA : (wr.alloc (.cells #[.slice none 0 0] 57)).heap.size = wr.heap.size + 1 := by simp
        have HNw : Hid (∀ w', Below (wr.alloc (.cells #[.slice none 0 0] 57)).heap.size (wr.alloc (.cells #[.slice none 0 0] 57)) w' → Below wr.heap.size wr w' ∧ w'.cell? ⟨wr.heap.size, 0, none⟩ = some (.slice none 0 0) ∧ w'.frozen? ⟨wr.heap.size, 0, none⟩ = false) := fun w' h => HBn.out wr _ w' (by rw [hszA] at h; exact h)
        have HSt : Hid (∀ (w2 : World) (no : Option Addr) (nc : Nat), Below (wr.alloc (.cells #[.slice none 0 0] 57)).heap.size (wr.alloc (.cells #[.slice none 0 0] 57)) w2 → (IntsV w2 (.slice no (nextL m x).length nc) (nextL m x) ∧ ∀ a, no = some a → (wr.alloc (.cells #[.slice none 0 0] 57)).heap.size ≤ a.block) → ∃ w4, (Instr.mapUpdate 55 (.map (some (w.heap.size + 1))) (.int .i64 x) (.agg #[.slice no (nextL m x).length nc])).run Tryd.prog (w2.setCell ⟨wr.heap.size, 0, none⟩ (.slice no (nextL m x).length nc)) = .ok () w4 ∧ w4.cell? ⟨wr.heap.size, 0, none⟩ = some (.slice no (nextL m x).length nc) ∧ Hid (KnOk w4 (w.heap.size + 1) (k + 1) m) ∧ Hid (Below (w.heap.size + 1) W1 w4) ∧ IntsV w4 (.slice no (nextL m x).length nc) (nextL m x)) := fun w2 no nc h hI => by
          obtain ⟨hI, hIa⟩ := hI
          obtain ⟨q1, q2, q3⟩ := HNw.out w2 h
          have hB3 : Below wr.heap.size wr (w2.setCell ⟨wr.heap.size, 0, none⟩ (.slice no (nextL m x).length nc)) := ⟨q1.os, q1.tape, q1.output, by simpa using q1.size, fun i hi => (RowKit.Below.heap_setCell _ _ _ _ (by show i ≠ wr.heap.size; omega)).trans (q1.block i hi)⟩
          obtain ⟨w4, r1, r2, r3⟩ := HPut.out _ _ k f x (.agg #[.slice no (nextL m x).length nc]) (HF.out.1.kept (hB3.block _ HF.out.1.lt)) (by omega) hrg
          have hI3 : IntsV (w2.setCell ⟨wr.heap.size, 0, none⟩ (.slice no (nextL m x).length nc)) (.slice no (nextL m x).length nc) (nextL m x) := by
            obtain ⟨ao, cap, e, hx⟩ := hI
            injection e with e1 _ e3
            subst e1 e3
            refine ⟨_, _, rfl, fun hne => ?_⟩
            obtain ⟨b, off, rfl, hlt, hat⟩ := hx hne
            have := hIa _ rfl
            rw [hszA] at this
            exact ⟨b, off, rfl, by simpa using hlt, fun i hi => by rw [World.cell?_setCell_other _ _ _ _ (by intro e; injection e with e _; simp at this; omega)]; exact hat i hi⟩
          obtain ⟨t1, t2⟩ := KnOk.put HF.out.1 HF.out.2 hB3 r3 r2 hI3
          have hb3w := hbl.trans (hB3.mono hws)
          have hmm : ∃ es c, (w2.setCell ⟨wr.heap.size, 0, none⟩ (.slice no (nextL m x).length nc)).heap[w.heap.size + 1]? = some (.map es c) := (HF.out.1.kept (hB3.block _ HF.out.1.lt)).isMap
          refine ⟨w4, r1, ?_, t1, hb3w.grown r3 (Nat.le_trans hws hB3.size) (fun q hq => by injection hq with hq; omega), t2⟩
          refine (Sk.grown r3 (.inl rfl) : Sk (w.heap.size + 1) (w.heap.size + 1) _ _).cell ⟨hmm, hmm⟩ ?_
          simp [go_sem, q2]
        have HCx : Hid (∀ (w1 : World) (no : Option Addr) (nc : Nat), IntsV w1 (.slice no (nextL m x).length nc) (nextL m x) → Calls Tryd.prog 20 #[.slice no (nextL m x).length nc, .int .i64 y] w1 fun e w' => e = .returned (.bool (decide (y ∈ nextL m x))) ∧ w' = w1) := fun w1 no nc h => HCo.out w1 no nc x y hrg h
        clear hf hfa hfx HK HF hB2 hbl2 HBx
        generalize (nextL m x).length = nn at *
        by_cases hy : y ∈ nextL m x
        · rw [decide_eq_true hy] at HCx
          have HY : Hid (LeadsTo m cs (k + 1)) := HYx.out hy
          clear hy hrg HNx
          go_wp2_with (first | (go_at_call 19; refine hne.mono ?_; rintro e w2 ⟨no, nc, rfl, hb2, HI⟩; obtain ⟨_, g1, g2⟩ := HNw.out w2 hb2; obtain ⟨w4, hrun, g3, HKn, HB4, hI4⟩ := HSt.out w2 no nc hb2 HI.out; have hco := HCx.out w4 no nc hI4) | (go_at_call 20; refine hco.mono ?_; rintro e w5 ⟨rfl, rfl⟩))
          go_roundw
          case rel => exact ⟨k + 1, by omega, by go_num, HY, HKn, HB4⟩
          case measure => simp [intOf]; omega
        · rw [decide_eq_false hy] at HCx
          have HR : Hid (res = false) := HNx.out hy
          clear hy hrg HYx
          go_wp2_with (first | (go_at_call 19; refine hne.mono ?_; rintro e w2 ⟨no, nc, rfl, hb2, HI⟩; obtain ⟨_, g1, g2⟩ := HNw.out w2 hb2; obtain ⟨w4, hrun, g3, HKn, HB4, hI4⟩ := HSt.out w2 no nc hb2 HI.out; have hco := HCx.out w4 no nc hI4) | (go_at_call 20; refine hco.mono ?_; rintro e w5 ⟨rfl, rfl⟩))
          go_ret
          exact ⟨by rw [HR.out]; rfl, HBe.out _ HB4.out⟩
    · obtain rfl : k = p := by omega
      have HR : Hid (res = true) := HRes.out k HL.out rfl
      have hbe := HBe.out _ HBl.out
      clear HK HL HRes
      go_wp2
      go_ret
      exact ⟨by rw [HR.out]; rfl, hbe⟩
end Go.Proofs.YtnicbkkkecfdpaaDoor

/-
  The library's slices.Grow, slices.Concat and slices.Contains at lists of numbers.
-/
namespace Go.Proofs.YtnicbkkkecfdpaaDoor
open Go.ChangeShapes Go.WideShapes Go.ChangeAt Go.RowKit Go.Deep
open Terms

set_option maxHeartbeats 800000 in
set_option maxRecDepth 20000 in
theorem growI_any (n : Nat) (w : World) (h0 : 0 < n) (h24 : n ≤ 1099511627776) :
    Calls Tryd.prog 18 #[.slice none 0 0, .int .i64 (n : Int)] w fun e w' => ∃ B cap, e = .returned (.slice (some ⟨B, 0, none⟩) 0 cap) ∧ Below w.heap.size w w' ∧ w'.ownsRow w.heap.size 3 1 (.slice (some ⟨B, 0, none⟩) 0 cap) 0 [] := by
  obtain ⟨i0, hi, hz0, hz1, hz2⟩ := info_parts infoInt
  have hrz : ∀ ty, (Builtin.append_ #[26, 3] ty #[.slice none 0 0, .int .i64 (n : Int)]).run Tryd.prog w = .ok (.slice (some ⟨w.heap.size, 0, none⟩) n (grownCap w n 0 3)) (w.drew.alloc (.cells (Builtin.zeroCells (Value.int .i64 0).cells n ++ Builtin.zeroCells (Value.int .i64 0).cells (grownCap w n 0 3 - n)) 3)) := fun ty =>
    Lib.run_append_nil_zeros w 26 3 ty 3 i0 (.int .i64 0) .i64 .i64 Tryd.underlying26 Tryd.underlying3 hi hz0 n h0 (by omega) (by omega) (by rw [hz2]; omega)
  have hge := grownCap_ge w n 0 3
  have hle := grownCap_le_maxLen w n 0 3 (by unfold maxLen; omega)
  generalize grownCap w n 0 3 = G at hrz hge hle
  have hG : G ≤ 9223372036854775807 := by unfold maxLen at hle; omega
  have hn : ¬ (n : Int) < 0 := by omega
  have hn2 : (n : Int) > 0 := by omega
  go_enter Tryd.func18, Tryd.ntmps18
  go_wp2_with (at_builtin; refine Lib.wpList_append_run _ rfl _ _ _ _ rfl _ _ rfl rfl _ _ (hrz _) ?_)
  go_ret
  refine ⟨_, _, rfl, (below_drewN (Below.refl _ _) 1).alloc (Nat.le_refl _) _, ?_⟩
  refine ⟨rfl, .inr ⟨w.heap.size, G, Builtin.zeroCells #[Value.int .i64 0] n ++ Builtin.zeroCells #[Value.int .i64 0] (G - n), rfl, Nat.le_refl _, ?_, Nat.zero_le _, hle, ?_, by simp⟩⟩
  · show (w.heap.push _)[w.heap.size]? = _
    simp
  · simp [size_zeroCells]
    omega

/-- what stands in the row ahead of each list. -/
def accI (xs : List (List Int)) (k : Nat) : List Int := (xs.take k).flatten
theorem accI_step {xs : List (List Int)} {k : Nat} (h : k < xs.length) : accI xs (k + 1) = accI xs k ++ xs.getD k [] := by
  unfold accI
  rw [List.take_succ_eq_append_getElem h, List.flatten_append]
  simp [List.getD_eq_getElem?_getD, h]
theorem accI_le (xs : List (List Int)) (k : Nat) : (accI xs k).length ≤ xs.flatten.length := by
  unfold accI
  have := congrArg List.length (congrArg List.flatten (List.take_append_drop k xs))
  rw [List.flatten_append, List.length_append] at this
  omega
theorem IntsW.below2 {w w' : World} {v : Value} {l : List Int} (h : IntsW w v l) (hb : Below w.heap.size w w') : IntsW w' v l := by
  obtain ⟨ao, cap, h1, h0, h⟩ := h
  refine ⟨ao, cap, h1, h0, fun hne => ?_⟩
  obtain ⟨b, off, e, hlt, hat⟩ := h hne
  exact ⟨b, off, e, Nat.lt_of_lt_of_le hlt hb.size, fun i hi => (hb.cell (p := ⟨b, _, none⟩) hlt).trans (hat i hi)⟩

set_option maxHeartbeats 1600000 in
set_option maxRecDepth 20000 in
/-- THE CONTRACT OF slices.Concat at three lists of numbers. -/
theorem concatI_own (g : Nat) (xs : List (List Int)) (w0 w : World) (hb0 : Below w0.heap.size w0 w) (h3 : xs.length = 3) (h0 : 1 ≤ xs.flatten.length) (hM : xs.flatten.length ≤ 1099511627776)
    (hX : ∀ k, k < 3 → ∃ v, w.cell? ⟨g, k, none⟩ = some v ∧ IntsW w0 v (xs.getD k [])) :
    Calls Tryd.prog 9 #[.slice (some ⟨g, 0, none⟩) 3 3] w fun e w' => ∃ B cap, e = .returned (.slice (some ⟨B, 0, none⟩) xs.flatten.length cap) ∧ Below w.heap.size w w' ∧ Hid (w'.ownsRow w.heap.size 3 1 (.slice (some ⟨B, 0, none⟩) xs.flatten.length cap) xs.flatten.length (ivals xs.flatten)) := by
  obtain ⟨v0, c0, _⟩ := hX 0 (by omega)
  have hg := World.block_lt_of_cell? w ⟨g, 0, none⟩ c0
  clear c0
  obtain ⟨i0, hi, hz0, hz1, hz2⟩ := info_parts infoInt
  obtain ⟨zz, hzz⟩ : ∃ zz : Nat → Int, zz = fun k => ((accI xs k).length : Int) := ⟨_, rfl⟩
  have HAt : Hid (∀ k, k < 3 → ∃ xo xn xc xl, w.cell? ⟨g, k, none⟩ = some (.slice xo xn xc) ∧ zz (k + 1) = zz k + (xn : Int) ∧ 0 ≤ zz k ∧ zz k ≤ 1099511627776 ∧ xn ≤ 1099511627776 ∧ xn = xl.length ∧ accI xs (k + 1) = accI xs k ++ xl ∧ (accI xs k).length + xn ≤ 1099511627776 ∧ IntsW w0 (.slice xo xn xc) xl) := fun k hk => by
    obtain ⟨v, hc, hI⟩ := hX k hk
    obtain ⟨ao, cap, rfl, h1, h2⟩ := id hI
    have e1 := accI_step (xs := xs) (k := k) (by omega)
    have e2 := accI_le xs k
    have e3 := accI_le xs (k + 1)
    have e4 := congrArg List.length e1
    rw [List.length_append] at e4
    exact ⟨ao, _, cap, xs.getD k [], hc, by rw [hzz]; show ((accI xs (k + 1)).length : Int) = ((accI xs k).length : Int) + _; omega, by rw [hzz]; show (0 : Int) ≤ ((accI xs k).length : Int); omega, by rw [hzz]; show ((accI xs k).length : Int) ≤ _; omega, by omega, rfl, e1, by omega, hI⟩
  have HZ0 : Hid (zz 0 = 0) := by show _ = _; rw [hzz]; rfl
  have HA0 : Hid (accI xs 0 = []) := rfl
  have HA3 : Hid (accI xs 3 = xs.flatten) := by show _ = _; unfold accI; rw [← h3, List.take_length]
  have HZ3 : Hid (zz 3 = ((xs.flatten.length : Nat) : Int)) := by show _ = _; rw [hzz, ← HA3.out]
  have hgr := fun w1 => growI_any xs.flatten.length w1 (by omega) hM
  have HLen : Hid (xs.flatten.length = xs.flatten.length) := rfl
  generalize xs.flatten = fl at *
  obtain ⟨tn, htn⟩ : ∃ tn, tn = fl.length := ⟨_, rfl⟩
  have HTn : Hid (tn = fl.length) := htn
  rw [← htn] at hgr HLen HZ3 hM h0 ⊢
  generalize accI xs = ac at *
  clear hX htn hzz h3 HLen
  go_enter Tryd.func9, Tryd.ntmps9
  go_wp2
  go_loop [3, 11] (fun z i => ∃ k : Nat, k ≤ 3 ∧ i = .int .i64 (k : Int) ∧ z = .int .i64 (zz k)) (fun _ i => 3 - (intOf i).toNat)
  case atStart => exact ⟨0, by omega, rfl, by rw [HZ0.out]⟩
  case round =>
    obtain ⟨k, hk, rfl, rfl⟩ := hrel
    by_cases hlt : k < 3
    · obtain ⟨xo, xn, xc, xl, hc, hz, hz00, hz12, hx12, hr⟩ := HAt.out k hlt
      clear hr
      have HZ : Hid (zz (k + 1) = zz k + (xn : Int)) := hz
      clear hz
      generalize zz k = z0 at *
      go_wp2
      go_round
      case rel => exact ⟨k + 1, hlt, by go_num, by rw [HZ.out]⟩
      case measure => simp [intOf]; omega
    · obtain rfl : k = 3 := by omega
      rw [HZ3.out]
      go_wp2_with (go_at_call 18; refine (hgr _).mono ?_; rintro e w1 ⟨B, cap, rfl, hb1, ho1⟩)
      clear hgr
      go_loopw [6, 27] (fun nv i wr => ∃ k : Nat, k ≤ 3 ∧ i = .int .i64 (k : Int) ∧ ∃ B cap, nv = .slice (some ⟨B, 0, none⟩) (ac k).length cap ∧ Hid (wr.ownsRow w.heap.size 3 1 nv (ac k).length (ivals (ac k))) ∧ Below w.heap.size w wr) (fun _ i _ => 3 - (intOf i).toNat)
      case atStart => exact ⟨0, by omega, rfl, B, cap, by rw [HA0.out]; rfl, by rw [HA0.out]; exact ho1, hb1⟩
      case round =>
        obtain ⟨k, hk, rfl, B, cap, rfl, HU, hbel⟩ := hrel
        by_cases hlt : k < 3
        · obtain ⟨xo, xn, xc, xl, hc, _, _, _, hx12, hxn, hac, hal, hX⟩ := HAt.out k hlt
          have hcr := (hbel.cell (p := ⟨g, k, none⟩) hg).trans hc
          have hown := HU.out
          have HXN : Hid (xn = xl.length) := hxn
          have HAC : Hid (ac (k + 1) = ac k ++ xl) := hac
          obtain ⟨xo', xc', hxv, hx0, hxat⟩ := hX
          injection hxv with e1 e2 e3
          subst e1 e3
          obtain ⟨us, hus⟩ : ∃ us, us = ivals (ac k) := ⟨_, rfl⟩
          have HUS : Hid (us = ivals (ac k)) := hus
          obtain ⟨un, hun⟩ : ∃ un, un = (ac k).length := ⟨_, rfl⟩
          have HUN : Hid (un = (ac k).length) := hun
          rw [← hus, ← hun] at hown
          rw [← hun] at hal ⊢
          clear hxn hac hus hun e2 HU
          cases xo with
          | none =>
            obtain ⟨hc0, hl0⟩ := hx0 rfl
            have HL0 : Hid (xl = []) := hl0
            have hxn0 : xn = 0 := by rw [HXN.out, HL0.out]; rfl
            subst hxn0 hc0
            clear hx0 hxat hl0
            go_wp2_with (at_builtin; refine wpList_append_own_none rfl (.tmp 31) (.tmp 32) 26 rfl w.heap.size 3 i0 1 Tryd.underlying26 hi _ _ _ rfl hown rfl ?_)
            go_roundw
            case rel => exact ⟨k + 1, hlt, by go_num, B, cap, by rw [HAC.out, HL0.out, List.append_nil, HUN.out], by show World.ownsRow _ _ _ _ _ _ _; rw [HAC.out, HL0.out, List.append_nil, ← HUN.out, ← HUS.out]; exact hown, hbel⟩
            case measure => simp [intOf]; omega
          | some a =>
            have hcells : ∀ j u, (ivals xl)[j]? = some u → wr.cell? (a.add j) = some u := by
              intro j u hj
              have hjl : j < xl.length := by have := (List.getElem?_eq_some_iff.1 hj).1; simpa [ivals] using this
              obtain ⟨b, off, e, hbl, hat⟩ := hxat (by rintro rfl; simp at hjl)
              obtain rfl := Option.some.inj e
              rw [Go.WideShapes.add_plain, (hb0.trans (hbel.mono hb0.size)).cell (p := ⟨b, off + j, none⟩) hbl, hat j hjl]
              simp [ivals, hjl] at hj
              simp [List.getD_eq_getElem?_getD, hjl, hj]
            have hvl : (ivals xl).length = xn * 1 := by rw [HXN.out]; simp [ivals]
            have hv1 := ivals_one xl
            have hbsz := hbel.size
            have hnb := hown.lt
            clear hx0 hxat
            go_wp2_with (at_builtin; refine wpList_append_own _ rfl (.tmp 31) (.tmp 32) 26 rfl w.heap.size 3 i0 (.int .i64 0) 1 8 Tryd.underlying26 hi hz0 hz1 hz2 rfl (by decide) (.slice (some ⟨B, 0, none⟩) un cap) un us rfl hown a xn xc (ivals xl) rfl hvl hcells hv1 (by unfold maxLen; omega) (by omega) hbsz ?_; intro v' w4 hown' hgrow hne)
            have hb4 : Below w.heap.size w w4 := hbel.grown hgrow hbsz (fun q hq => (hnb q hq).1)
            obtain ⟨B4, cap4, rfl⟩ : ∃ B4 cap4, v' = .slice (some ⟨B4, 0, none⟩) (un + xn) cap4 := by
              rcases hown'.2 with ⟨h, _⟩ | ⟨g', cap', cur', h, _⟩
              · exact absurd (hne.1 h).1 (by simp)
              · exact ⟨_, _, h⟩
            have HLn : Hid (un + xn = (ac (k + 1)).length) := by show _ = _; rw [HAC.out, List.length_append, ← HUN.out, HXN.out]
            have HU4 : Hid (w4.ownsRow w.heap.size 3 1 (.slice (some ⟨B4, 0, none⟩) (un + xn) cap4) (ac (k + 1)).length (ivals (ac (k + 1)))) := by
              show World.ownsRow _ _ _ _ _ _ _
              rw [← HLn.out, HAC.out, show ivals (ac k ++ xl) = us ++ ivals xl by rw [HUS.out]; simp [ivals]]
              exact hown'
            clear hown' hgrow hown hcells hne
            go_roundw
            case rel => exact ⟨k + 1, hlt, by go_num, B4, cap4, by rw [HLn.out], HU4, hb4⟩
            case measure => simp [intOf]; omega
        · obtain rfl : k = 3 := by omega
          have HF : Hid (wr.ownsRow w.heap.size 3 1 (.slice (some ⟨B, 0, none⟩) tn cap) tn (ivals fl)) := by
            have h1 := HU.out
            rw [HA3.out, ← HTn.out] at h1
            exact h1
          rw [HA3.out, ← HTn.out]
          clear HU
          go_wp2
          go_ret
          exact ⟨_, _, rfl, hbel, HF⟩
end Go.Proofs.YtnicbkkkecfdpaaDoor

/-
  The contract of verdict.Runs.
-/
namespace Go.Proofs.YtnicbkkkecfdpaaDoor
open Go.ChangeShapes Go.WideShapes Go.ChangeAt Go.RowKit Go.Deep Go.Maps
open Terms Tm

/-- a slice of numbers with its room. -/
def IntsX (w : World) (v : Value) (l : List Int) : Prop := ∃ ao cap, v = .slice ao l.length cap ∧ l.length ≤ cap ∧ (ao = none → cap = 0 ∧ l = []) ∧ (l ≠ [] → ∃ b off, ao = some ⟨b, off, none⟩ ∧ b < w.heap.size ∧ IntsAt w b off l)
theorem IntsX.w {w : World} {v : Value} {l : List Int} (h : IntsX w v l) : IntsW w v l := by
  obtain ⟨ao, cap, h1, _, h2, h3⟩ := h
  exact ⟨ao, cap, h1, h2, h3⟩
theorem IntsX.below {w w' : World} {v : Value} {l : List Int} (h : IntsX w v l) (hb : Below w.heap.size w w') : IntsX w' v l := by
  obtain ⟨ao, cap, h1, hc, h0, h⟩ := h
  refine ⟨ao, cap, h1, hc, h0, fun hne => ?_⟩
  obtain ⟨b, off, e, hlt, hat⟩ := h hne
  exact ⟨b, off, e, Nat.lt_of_lt_of_le hlt hb.size, fun i hi => (hb.cell (p := ⟨b, _, none⟩) hlt).trans (hat i hi)⟩
theorem intsX_of_owns {w : World} {base : Nat} {v : Value} {l : List Int} (h : w.ownsRow base 3 1 v l.length (ivals l)) : IntsX w v l := by
  rcases h.2 with ⟨rfl, h0⟩ | ⟨g, cap, cur, rfl, hb, hg, hnc, hcm, hcs, htake⟩
  · have : l = [] := by simpa using h0
    subst this
    exact ⟨none, 0, rfl, Nat.le_refl _, fun _ => ⟨rfl, rfl⟩, fun h => absurd rfl h⟩
  · refine ⟨_, cap, rfl, hnc, fun h => by simp at h, fun _ => ⟨g, 0, rfl, (Array.getElem?_eq_some_iff.1 hg).1, fun i hi => ?_⟩⟩
    rw [Nat.zero_add, h.cellAt i (by omega)]
    simp [ivals, List.getD_eq_getElem?_getD, hi]

set_option maxHeartbeats 1600000 in
set_option maxRecDepth 20000 in
theorem runs_bad (va vr sv lv : Value) (m : Mo) (w : World) (hB : 0 < w.heap.size) (hT : TabAt w) (hV : ModelV w va vr m) (hm : mcode m ≠ 0) :
    Calls Tryd.prog 4 #[.agg #[va, vr], .agg #[sv, lv]] w fun e w' => e = .returned (.tuple #[.bool false, .int .i64 (mcode m)]) ∧ Below w.heap.size w w' := by
  obtain ⟨W2, hW2⟩ : ∃ W2, W2 = (w.alloc (.cells #[va, vr] 25)).alloc (.cells #[sv, lv] 28) := ⟨_, rfl⟩
  have hb2 : Below w.heap.size w W2 := by rw [hW2]; exact ((Below.refl _ _).alloc (Nat.le_refl _) _).alloc (by simp) _
  have hfi := mfirst_any va vr m W2 (Nat.lt_of_lt_of_le hB hb2.size) (hT.below hb2 hB) (hV.below hb2)
  rw [if_neg hm] at hfi
  obtain ⟨ao, ac, rfl⟩ := hV.1.shape
  obtain ⟨ro, rc, rfl⟩ := hV.2.shape
  generalize mcode m = q at *
  generalize m.vars.length = vn at *
  generalize m.rules.length = rn at *
  clear hT hV
  rw [hW2] at hfi
  go_enter Tryd.func4, Tryd.ntmps4
  go_wp2_with (go_at_call 8; refine hfi.mono ?_; rintro e w1 ⟨rfl, hb1⟩)
  go_ret2
  rw [← hW2] at hb1
  exact ⟨rfl, hb2.trans (hb1.mono hb2.size)⟩

set_option maxHeartbeats 1600000 in
set_option maxRecDepth 20000 in
theorem runs_ok (va vr sv lv : Value) (m : Mo) (ss ll : List Int) (w : World) (hB : 0 < w.heap.size) (hT : TabAt w) (hV : ModelV w va vr m) (hm : mcode m = 0) (hS : IntsX w sv ss) (hL : IntsX w lv ll) (hz : ss.length + ll.length ≤ 1099511627775) :
    Calls Tryd.prog 4 #[.agg #[va, vr], .agg #[sv, lv]] w fun e w' => e = .returned (.tuple #[.bool (runB m ss ll), .int .i64 0]) ∧ Below w.heap.size w w' := by
  obtain ⟨W2, hW2⟩ : ∃ W2, W2 = (w.alloc (.cells #[va, vr] 25)).alloc (.cells #[sv, lv] 28) := ⟨_, rfl⟩
  have hb2 : Below w.heap.size w W2 := by rw [hW2]; exact ((Below.refl _ _).alloc (Nat.le_refl _) _).alloc (by simp) _
  have hz2 : W2.heap.size = w.heap.size + 2 := by rw [hW2]; simp
  have hfi := mfirst_any va vr m W2 (Nat.lt_of_lt_of_le hB hb2.size) (hT.below hb2 hB) (hV.below hb2)
  rw [if_pos hm, hm] at hfi
  have HBx : Hid (∀ w1, Below W2.heap.size W2 w1 → Below w.heap.size w w1 ∧ w.heap.size + 2 ≤ w1.heap.size ∧ w1.cell? ⟨w.heap.size, 0, none⟩ = some va ∧ w1.cell? ⟨w.heap.size, 1, none⟩ = some vr ∧ w1.cell? ⟨w.heap.size + 1, 0, none⟩ = some sv ∧ w1.cell? ⟨w.heap.size + 1, 1, none⟩ = some lv) := fun w1 h => by
    have hl : w.heap.size < W2.heap.size := by omega
    have hl1 : w.heap.size + 1 < W2.heap.size := by omega
    refine ⟨hb2.trans (h.mono hb2.size), by have := h.size; omega, (h.cell (p := ⟨w.heap.size, 0, none⟩) hl).trans ?_, (h.cell (p := ⟨w.heap.size, 1, none⟩) hl).trans ?_, (h.cell (p := ⟨w.heap.size + 1, 0, none⟩) hl1).trans ?_, (h.cell (p := ⟨w.heap.size + 1, 1, none⟩) hl1).trans ?_⟩ <;> (rw [hW2]; simp [go_sem])
  by_cases hl0 : ll = []
  · subst hl0
    rw [runB_none]
    obtain ⟨lo, lc, rfl, _⟩ := hL
    obtain ⟨ao, ac, rfl⟩ := hV.1.shape
    obtain ⟨ro, rc, rfl⟩ := hV.2.shape
    generalize codeTo m.vars (initsL m.vars) m.vars.length = fc at *
    generalize m.vars.length = vn at *
    generalize m.rules.length = rn at *
    clear hT hV hS hm
    rw [hW2] at hfi
    go_enter Tryd.func4, Tryd.ntmps4
    go_wp2_with (go_at_call 8; refine hfi.mono ?_; rintro e w1 ⟨rfl, hb1⟩; rw [← hW2] at hb1; obtain ⟨hbw, _, _, _, k2, k3⟩ := HBx.out w1 hb1)
    go_ret2
    exact ⟨rfl, hbw⟩
  · have hlp : 0 < ll.length := List.length_pos_iff.2 hl0
    have HCon : Hid (∀ (g : Nat) (w1 : World) (lo : Option Addr) (lc : Nat), lv = .slice lo ll.length lc → Below w.heap.size w w1 → w1.cell? ⟨g, 0, none⟩ = some sv → w1.cell? ⟨g, 1, none⟩ = some lv → w1.cell? ⟨g, 2, none⟩ = some (.slice lo 1 lc) → Calls Tryd.prog 9 #[.slice (some ⟨g, 0, none⟩) 3 3] w1 fun e w' => ∃ B cap, e = .returned (.slice (some ⟨B, 0, none⟩) (rvd ss ll).length cap) ∧ Below w1.heap.size w1 w' ∧ Hid (B < w'.heap.size ∧ (rvd ss ll).length ≤ cap ∧ IntsAt w' B 0 (rvd ss ll))) := fun g w1 lo lc hlv hb c0 c1 c2 => by
      have h := concatI_own g [ss, ll, [ll.getD 0 0]] w w1 hb rfl (by rw [rvd_flat, rvd_len]; omega) (by rw [rvd_flat, rvd_len]; omega) (fun k hk => by
        have hk3 : k = 0 ∨ k = 1 ∨ k = 2 := by omega
        rcases hk3 with rfl | rfl | rfl
        · exact ⟨sv, c0, hS.w⟩
        · exact ⟨lv, c1, hL.w⟩
        · refine ⟨_, c2, lo, lc, rfl, fun h => ?_, fun _ => ?_⟩
          · obtain ⟨_, _, e, _, hx, _⟩ := hL
            rw [hlv] at e
            injection e with e1 _ _
            subst e1
            exact absurd (hx h).2 hl0
          · obtain ⟨_, _, e, _, _, hx⟩ := hL
            rw [hlv] at e
            injection e with e1 _ _
            subst e1
            obtain ⟨b, off, e, hlt, hat⟩ := hx hl0
            refine ⟨b, off, e, hlt, fun i hi => ?_⟩
            have hi0 : i = 0 := by simp at hi; omega
            subst hi0
            exact hat 0 hlp)
      rw [rvd_flat] at h
      refine h.mono fun e w' ⟨B, cap, e1, e2, e3⟩ => ⟨B, cap, e1, e2, ?_⟩
      obtain ⟨ao, cap', e4, e5, _, e6⟩ := intsX_of_owns e3.out
      injection e4 with e7 _ e8
      subst e7 e8
      obtain ⟨b, off, e9, e10, e11⟩ := e6 (by simp [rvd])
      injection e9 with e9
      injection e9 with e12 e13
      subst e12 e13
      exact ⟨e10, e5, e11⟩
    have HLd : Hid (∀ (B cap : Nat) (w1 : World), Below w.heap.size w w1 → (B < w1.heap.size ∧ (rvd ss ll).length ≤ cap ∧ IntsAt w1 B 0 (rvd ss ll)) → (rvd ss ll).getD 0 0 = firstC m → Calls Tryd.prog 10 #[.agg #[va, vr], .slice (some ⟨B, 0, none⟩) (rvd ss ll).length cap] w1 fun e w' => e = .returned (.bool (runB m ss ll)) ∧ Below w1.heap.size w1 w') := fun B cap w1 hb h hf => by
      rw [runB_lead hm hl0 hf]
      exact allLead_any va vr m B 0 cap (rvd ss ll) w1 (Nat.lt_of_lt_of_le hB hb.size) (hT.below hb hB) (hV.below hb) hm (by rw [rvd_len]; omega) (by rw [rvd_len]; omega) h.2.1 h.1 h.2.2 (by rw [hf]; exact firstC_range hm)
    have HNo : Hid ((rvd ss ll).getD 0 0 ≠ firstC m → runB m ss ll = false) := fun h => runB_first h
    have hrp : 0 < (rvd ss ll).length := by rw [rvd_len]; omega
    have hfe : codeTo m.vars (initsL m.vars) m.vars.length = firstC m := rfl
    rw [hfe] at hfi
    generalize firstC m = fc at *
    generalize runB m ss ll = res at *
    generalize rvd ss ll = rd at *
    obtain ⟨lo, lc, rfl, hlc, _⟩ := id hL
    obtain ⟨so, sc, rfl, _⟩ := id hS
    obtain ⟨ao, ac, rfl⟩ := hV.1.shape
    obtain ⟨ro, rc, rfl⟩ := hV.2.shape
    have HC1 := fun g w1 => HCon.out g w1 lo lc rfl
    have HCon : Hid _ := HC1
    clear HC1
    obtain ⟨rn2, hrn2⟩ : ∃ x, x = rd.length := ⟨_, rfl⟩
    have HRn : Hid (rn2 = rd.length) := hrn2
    rw [← hrn2] at hrp HCon HLd
    generalize m.vars.length = vn at *
    generalize m.rules.length = rn at *
    generalize ll.length = ln at *
    generalize ss.length = sn at *
    have hlc1 : 1 ≤ lc := by omega
    clear hT hV hS hL hm hl0 hfe hrn2 hz
    rw [hW2] at hfi
    go_enter Tryd.func4, Tryd.ntmps4
    go_wp2_with (go_at_call 8; refine hfi.mono ?_; rintro e w1 ⟨rfl, hb1⟩; rw [← hW2] at hb1; obtain ⟨hbw, hsz, k0, k1, k2, k3⟩ := HBx.out w1 hb1)
    have hcx := HCon.out w1.heap.size (w1.drew.alloc (.cells #[.slice so sn sc, .slice lo ln lc, .slice lo 1 lc] 26)) (hbw.drew.alloc hbw.size _) (by simp [go_sem]) (by simp [go_sem]) (by simp [go_sem])
    have HSC : Hid (∀ w', Below w1.heap.size w1 w' → w'.cell? ⟨w.heap.size + 1, 0, none⟩ = some (.slice so sn sc) ∧ w'.cell? ⟨w.heap.size + 1, 1, none⟩ = some (.slice lo ln lc)) := fun w' h => by
      have hl : w.heap.size + 1 < w1.heap.size := by omega
      exact ⟨(h.cell (p := ⟨w.heap.size + 1, 0, none⟩) hl).trans k2, (h.cell (p := ⟨w.heap.size + 1, 1, none⟩) hl).trans k3⟩
    have hB0 : Below w1.heap.size w1 w1 := Below.refl _ _
    have HM : Hid (∀ w', Below w1.heap.size w1 w' → Below w.heap.size w w' ∧ w'.cell? ⟨w.heap.size, 0, none⟩ = some (.slice ao vn ac) ∧ w'.cell? ⟨w.heap.size, 1, none⟩ = some (.slice ro rn rc)) := fun w' h => by
      have hl : w.heap.size < w1.heap.size := by omega
      exact ⟨hbw.trans (h.mono hbw.size), (h.cell (p := ⟨w.heap.size, 0, none⟩) hl).trans k0, (h.cell (p := ⟨w.heap.size, 1, none⟩) hl).trans k1⟩
    have hlc2 : (1 : Int) ≤ (lc : Int) := by omega
    clear hfi hb1
    go_region_held3 (fun w' => w'.cell? ⟨w.heap.size + 1, 0, none⟩ = some (.slice so sn sc) ∧ w'.cell? ⟨w.heap.size + 1, 1, none⟩ = some (.slice lo ln lc))
      (first | exact HSC.out _ hb12 | exact HSC.out _ (hB0.drew.alloc hB0.drew.size _) | exact HSC.out _ hB0.drew | exact HSC.out _ hB0)
      (first
        | (go_at_call 9; refine hcx.mono ?_; rintro e w3 ⟨B, cap, rfl, hb3, HR⟩; have hb12 : Below w1.heap.size w1 w3 := (hB0.drew.alloc hB0.drew.size _).trans (hb3.mono (by simp))))
    obtain ⟨hbw3, m0, m1⟩ := HM.out w3 hb12
    have hR := HR.out
    have HLd3 := HLd.out B cap w3 hbw3 hR
    have cz := hR.2.2 0 (by rw [← HRn.out]; exact hrp)
    rw [Nat.zero_add] at cz
    clear hR HR
    by_cases hf : rd.getD 0 0 = fc
    · have hld := HLd3 hf
      rw [hf] at cz
      clear HLd3 hf HNo
      go_wp2_with (go_at_call 10; refine hld.mono ?_; rintro e w4 ⟨rfl, hb4⟩)
      go_ret2
      exact ⟨rfl, hbw3.trans (hb4.mono hbw3.size)⟩
    · have HNf : Hid (res = false) := HNo.out hf
      generalize rd.getD 0 0 = y at *
      clear HLd3
      go_wp2_with fail
      go_ret2
      exact ⟨by rw [HNf.out]; first | rfl | simp [hf], hbw3⟩
theorem runs_any (va vr sv lv : Value) (m : Mo) (ss ll : List Int) (w : World) (hB : 0 < w.heap.size) (hT : TabAt w) (hV : ModelV w va vr m) (hS : IntsX w sv ss) (hL : IntsX w lv ll) (hz : ss.length + ll.length ≤ 1099511627775) :
    Calls Tryd.prog 4 #[.agg #[va, vr], .agg #[sv, lv]] w fun e w' => e = .returned (.tuple #[.bool (runB m ss ll), .int .i64 (mcode m)]) ∧ Below w.heap.size w w' := by
  by_cases hm : mcode m = 0
  · have h := runs_ok va vr sv lv m ss ll w hB hT hV hm hS hL hz
    rw [hm]
    exact h
  · rw [runB_bad hm]
    exact runs_bad va vr sv lv m w hB hT hV hm
end Go.Proofs.YtnicbkkkecfdpaaDoor
