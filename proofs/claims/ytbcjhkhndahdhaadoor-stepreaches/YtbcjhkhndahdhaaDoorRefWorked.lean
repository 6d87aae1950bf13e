/-
  The contract of the document's own worked.
-/
import Derived.Test.YtbcjhkhndahdhaaDoorRefExpr2
import Derived.Test.YtbcjhkhndahdhaaDoorIntsOf
namespace Go.Proofs.YtbcjhkhndahdhaaDoor
open Go.ChangeShapes Go.WideShapes Go.ChangeAt Go.RowKit Go.Deep
open Terms Tm

def wkN (r : Option Int) : Int := match r with
  | some x => x
  | none => 0
def wkC (r : Option Int) : Int := match r with
  | some _ => 0
  | none => 8

/-- what the row of the parts' values is, when those from k on are in it. -/
def RowF (t : Tm) (env : List Int) (base np : Nat) (vao : Option Addr) (wr : World) (k : Nat) : Prop :=
  np = 0 ∨ ∃ g, vao = some ⟨g, 0, none⟩ ∧ base ≤ g ∧ g < wr.heap.size ∧ (∀ j, j < np → wr.frozen? ⟨g, j, none⟩ = false ∧ ∃ u, wr.cell? ⟨g, j, none⟩ = some u) ∧ (∀ j, k ≤ j → j < np → ∃ x, (t.kids.getD j t).eval env = some x ∧ wr.cell? ⟨g, j, none⟩ = some (.int .i64 x))
theorem RowF.later {t : Tm} {env : List Int} {base np k : Nat} {vao : Option Addr} {w w' : World} (h : RowF t env base np vao w k) (hb : Below w.heap.size w w') : RowF t env base np vao w' k := by
  rcases h with h | ⟨g, h1, h2, h3, h4, h5⟩
  · exact .inl h
  · refine .inr ⟨g, h1, h2, Nat.lt_of_lt_of_le h3 hb.size, fun j hj => ?_, fun j hk hj => ?_⟩
    · obtain ⟨f, u, c⟩ := h4 j hj
      exact ⟨(hb.frozen (p := ⟨g, j, none⟩) h3).trans f, u, (hb.cell (p := ⟨g, j, none⟩) h3).trans c⟩
    · obtain ⟨x, e, c⟩ := h5 j hk hj
      exact ⟨x, e, (hb.cell (p := ⟨g, j, none⟩) h3).trans c⟩
theorem RowF.store {t : Tm} {env : List Int} {base np k g : Nat} {x : Int} {w : World} (h : RowF t env base np (some ⟨g, 0, none⟩) w (k + 1)) (hk : k < np) (hx : (t.kids.getD k t).eval env = some x) : RowF t env base np (some ⟨g, 0, none⟩) (w.setCell ⟨g, k, none⟩ (.int .i64 x)) k := by
  rcases h with h | ⟨g', h1, h2, h3, h4, h5⟩
  · omega
  · obtain rfl : g = g' := by simpa using h1
    refine .inr ⟨g, rfl, h2, by simpa using h3, fun j hj => ?_, fun j hkj hj => ?_⟩
    · obtain ⟨f, u, c⟩ := h4 j hj
      refine ⟨by simpa [go_sem] using f, ?_⟩
      by_cases hjk : j = k
      · subst hjk; exact ⟨.int .i64 x, by simp [go_sem, c]⟩
      · exact ⟨u, by rw [← c]; exact World.cell?_setCell_other _ _ _ _ (by intro h; injection h with _ h2; omega)⟩
    · by_cases hjk : j = k
      · subst hjk
        obtain ⟨f, u, c⟩ := h4 j hj
        exact ⟨x, hx, by simp [go_sem, c]⟩
      · obtain ⟨y, e, c⟩ := h5 j (by omega) hj
        exact ⟨y, e, by rw [← c]; exact World.cell?_setCell_other _ _ _ _ (by intro h; injection h with _ h2; omega)⟩

theorem wrE {x : Int} (h1 : -9223372036854775808 ≤ x) (h2 : x ≤ 9223372036854775807) : IntKind.i64.wrap x = x := by
  rw [IntWalk.i64_left]
  exact IntWalk.wrap64_in x ⟨h1, h2⟩
theorem mul_big {x y : Int} (hx : -1000000 ≤ x ∧ x ≤ 1000000) (hy : -1000000 ≤ y ∧ y ≤ 1000000) : -1000000000000 ≤ x * y ∧ x * y ≤ 1000000000000 := by
  have h : (x * y).natAbs ≤ 1000000000000 := by
    rw [Int.natAbs_mul]
    exact Nat.mul_le_mul (show x.natAbs ≤ 1000000 by omega) (show y.natAbs ≤ 1000000 by omega)
  omega
theorem IntsV.atE {w : World} {ao : Option Addr} {cap n : Nat} {l : List Int} (h : IntsV w (.slice ao n cap) l) {i : Nat} (hi : i < l.length) : ∃ b off, ao = some ⟨b, off, none⟩ ∧ b < w.heap.size ∧ w.cell? ⟨b, off + i, none⟩ = some (.int .i64 (l.getD i 0)) := by
  obtain ⟨ao', cap', h1, h3⟩ := h
  injection h1 with e1 e2 e3
  subst e1
  obtain ⟨b, off, e, hb, hh⟩ := h3 (by intro h; subst h; simp at hi)
  exact ⟨b, off, e, hb, hh i hi⟩
theorem eval_kid_none {t : Tm} {env : List Int} {k : Nat} (hk : k < t.kids.length) (h : (t.kids.getD k t).eval env = none) : t.eval env = none := by
  cases t with
  | leaf a b => simp [kids] at hk
  | un a b s =>
    have : k = 0 := by simp [kids] at hk; exact hk
    subst this
    simp only [kids, List.getD_cons_zero] at h
    simp [eval, h]
  | bi a b s u =>
    have hk2 : k = 0 ∨ k = 1 := by simp [kids] at hk; omega
    rcases hk2 with rfl | rfl
    · simp only [kids, List.getD_cons_zero] at h
      simp [eval, h]
    · simp only [kids, List.getD_cons_succ, List.getD_cons_zero] at h
      cases hs : s.eval env <;> simp [eval, h, hs]

set_option maxHeartbeats 1600000 in
set_option maxRecDepth 20000 in
theorem worked_any (eao : Option Addr) (ecap en : Nat) (env : List Int) (hev : Hid (EnvOk env)) (hen : Hid (env.length = en)) (d : Nat) : ∀ (t : Tm) (v : Value) (w : World), t.size ≤ d → t.size ≤ 60 → t.Good en → t.typed = true → OpsV w v t.ops → IntsV w (.slice eao en ecap) env →
    Calls Tryd.prog 69 #[v, .slice eao en ecap] w fun e w' => e = .returned (.tuple #[.int .i64 (wkN (t.eval env)), .int .i64 (wkC (t.eval env))]) ∧ Below w.heap.size w w' := by
  induction d with
  | zero => intro t v w hd; have := t.size_pos; omega
  | succ d ih =>
    intro t v w hd h60 hg hty hV hE
    have hsp := splitOf_any v t.ops w hV
    rw [splitL_tree hg.wf h60, tree_code hg.wf h60] at hsp
    obtain ⟨i0, hi, hz0, hz1, hz2⟩ := info_parts infoInt
    have HV : Hid (OpsV w v t.ops) := hV
    have HE : Hid (IntsV w (.slice eao en ecap) env) := hE
    have HGT : Hid (t.Good en ∧ t.typed = true) := ⟨hg, hty⟩
    obtain ⟨va, vn, vc, hvs⟩ : ∃ a n c, v = .slice a n c := by obtain ⟨a, c, rfl, _⟩ := hV; exact ⟨_, _, _, rfl⟩
    subst hvs
    have hk2 := t.kids_le
    have HS : Hid (∀ i, i < t.kids.length → (t.kids.getD i t).size ≤ d ∧ (t.kids.getD i t).size ≤ 60 ∧ (t.kids.getD i t).Good en ∧ (t.kids.getD i t).typed = true) := fun i hi => by
      have := t.kid_at hi
      exact ⟨by omega, by omega, hg.kid hi, ((typed_kids t).1 hty i hi).2⟩
    obtain ⟨np, hnp⟩ : ∃ np, np = t.kids.length := ⟨_, rfl⟩
    have HNP : Hid (np = t.kids.length) := hnp
    rw [← hnp] at hk2
    obtain ⟨res, hres⟩ : ∃ res, t.eval env = res := ⟨_, rfl⟩
    rw [hres]
    have HRS : Hid (t.eval env = res) := hres
    clear hV hE hnp hres hg hty
    go_enter Tryd.func69, Tryd.ntmps69
    go_wp2_with (go_at_call 86; refine hsp.mono ?_; rintro e w1 ⟨tv, rfl, hb1, ht⟩; obtain ⟨tao, tcap, htv, htat⟩ := ht; rw [List.length_map, ← HNP.out] at htv; subst htv)
    have HT := (show Hid _ from htat)
    clear htat hsp
    go_loopw [8, 9] (fun vv c wr => ∃ i : Nat, i ≤ np ∧ c = .int .i64 i ∧ wr.ownsRow w1.heap.size 3 1 vv i (List.replicate i (.int .i64 0)) ∧ Below w1.heap.size w1 wr) (fun _ c _ => np - (intOf c).toNat)
    case atStart => exact ⟨0, Nat.zero_le _, rfl, World.ownsRow_nil _ _ _ _, Below.refl _ _⟩
    case round =>
      obtain ⟨i, hile, rfl, hown, hbel⟩ := hrel
      by_cases hlt : i < np
      · have hsz := hbel.size
        go_wp2_with (at_builtin; refine wpList_append_own _ rfl (.tmp 26) (.tmp 27) 26 rfl w1.heap.size 3 i0 (.int .i64 0) 1 8 Tryd.underlying26 hi hz0 hz1 hz2 rfl (by decide) _ _ _ rfl (hown.alloc _) ⟨_, 0, none⟩ 1 1 [.int .i64 0] rfl rfl (cell_one_new _ _ _) ?c2 ?c3 ?c4 ?c5 ?_)
        case c2 => intro u hu; simp at hu; subst hu; rfl
        case c3 => unfold maxLen; omega
        case c4 => omega
        case c5 => simp; omega
        intro v' w4 hown' hgrow _
        have hb4 : Below w1.heap.size w1 w4 := (hbel.alloc (by omega) _).grown hgrow (by simp; omega) (fun q hq => (hown.lt q hq).1)
        have ho4 : w4.ownsRow w1.heap.size 3 1 v' (i + 1) (List.replicate (i + 1) (.int .i64 0)) := by
          rw [List.replicate_succ']; exact hown'
        clear hown' hgrow hown
        go_wp2
        go_roundw
        case rel => exact ⟨i + 1, by omega, by go_num, ho4, hb4⟩
        case measure => simp [intOf]; omega
      · have hin : i = np := by omega
        subst hin
        clear hlt hile
        generalize wr = wo at *
        go_wp2_with fail
        obtain ⟨vao, vcap, rfl⟩ := owns_slice hown
        have HR0 : Hid (RowF t env w1.heap.size i vao wo i) := by
          show RowF _ _ _ _ _ _ _
          rcases hown.2 with ⟨h1, h2⟩ | ⟨g, cap, cur, h1, h2, h3, h4⟩
          · exact .inl h2
          · injection h1 with e1 e2 e3
            refine .inr ⟨g, e1, h2, (Array.getElem?_eq_some_iff.1 h3).1, fun j hj => ⟨by simp [World.frozen?, h3], ?_⟩, fun j hkj hj => by omega⟩
            exact ⟨.int .i64 0, by rw [e1, e3] at hown; rw [hown.cellAt j (by omega)]; simp [hj]⟩
        have HBo : Hid (Below w1.heap.size w1 wo) := hbel
        clear hown hbel
        go_loopw [10] (fun c wr => ∃ k : Nat, k ≤ i ∧ c = .int .i64 ((k : Int) - 1) ∧ Below w1.heap.size w1 wr ∧ Hid (RowF t env w1.heap.size i vao wr k)) (fun c _ => ((intOf c) + 1).toNat)
        case atStart => exact ⟨i, Nat.le_refl _, by go_num, HBo.out, HR0.out⟩
        case round =>
          obtain ⟨k, hki, rfl, hbel, HR⟩ := hrel
          by_cases hk : 0 < k
          · obtain ⟨k, rfl⟩ : ∃ k', k = k' + 1 := ⟨k - 1, by omega⟩
            rw [show (((k + 1 : Nat) : Int) - 1) = (k : Int) by omega]
            have hltk : k < t.kids.length := by rw [← HNP.out]; omega
            obtain ⟨tb, toff, rfl, hbl, hcs⟩ := HT.out (by intro h; have := congrArg List.length h; rw [List.length_map] at this; simp at this; rw [this] at hltk; simp at hltk)
            obtain ⟨u, hu, hou⟩ := hcs k (by rw [List.length_map]; exact hltk)
            have hgd : (t.kids.map ops).getD k [] = (t.kids.getD k t).ops := by
              rw [List.getD_eq_getElem?_getD, List.getElem?_map, List.getD_eq_getElem?_getD, List.getElem?_eq_getElem hltk]
              rfl
            rw [hgd] at hou
            obtain ⟨hs1, hs2, hs3, hs4⟩ := HS.out k hltk
            have hbw := hb1.trans (hbel.mono hb1.size)
            have hrec := ih (t.kids.getD k t) u wr hs1 hs2 hs3 hs4 (hou.below hbel) (HE.out.below hbw)
            clear ih
            have hcu := (hbel.cell (p := ⟨tb, toff + k, none⟩) hbl).trans hu
            obtain ⟨ua, un, uc, hus⟩ : ∃ a n c, u = .slice a n c := by obtain ⟨a, c, rfl, _⟩ := hou; exact ⟨_, _, _, rfl⟩
            subst hus
            have HBw : Hid (Below w.heap.size w wr) := hbw
            have HBe : Hid (Below w1.heap.size w1 wr) := hbel
            cases hx : (t.kids.getD k t).eval env with
            | none =>
              rw [hx] at hrec
              have HX : Hid (res = none) := by
                show _ = _
                rw [← HRS.out]
                exact eval_kid_none hltk hx
              simp only [wkN, wkC] at hrec
              clear hgd hou hu hcs hs1 hs2 hs3 hs4 hx hbel hbw
              go_wp2_with (go_at_call 69; refine hrec.mono ?_; rintro e w2 ⟨rfl, hb2⟩)
              go_ret2
              rw [HX.out]
              exact ⟨rfl, HBw.out.trans (hb2.mono HBw.out.size)⟩
            | some x =>
              rw [hx] at hrec
              simp only [wkN, wkC] at hrec
              obtain ⟨g, rfl, hg1, hg2, hg3, _⟩ := HR.out.resolve_left (by omega)
              have HX : Hid ((t.kids.getD k t).eval env = some x) := hx
              have HFZ := (show Hid _ from hg3 k (by omega))
              clear hgd hou hu hcs hs1 hs2 hs3 hs4 hx hbel hbw hg3
              go_wp2_with (go_at_call 69; refine hrec.mono ?_; rintro e w2 ⟨rfl, hb2⟩; obtain ⟨hf0, u0, hc0⟩ := HFZ.out; have hf2 := (hb2.frozen (p := ⟨g, k, none⟩) hg2).trans hf0; have hc2 := (hb2.cell (p := ⟨g, k, none⟩) hg2).trans hc0)
              go_roundw
              case rel => exact ⟨k, by omega, by go_num, (HBe.out.trans (hb2.mono HBe.out.size)).setCell (p := ⟨g, k, none⟩) hg1 _, RowF.store (HR.out.later hb2) (by omega) HX.out⟩
              case measure => simp [intOf]
          · have hk0 : k = 0 := by omega
            subst hk0
            have hbw := hb1.trans (hbel.mono hb1.size)
            obtain ⟨bo, bcap, hbe, _, hbh⟩ := HV.out
            obtain ⟨b, off, rfl, hblt, hbat⟩ := hbh t.ops_ne
            injection hbe with e1 e2 e3
            subst e1 e2 e3
            have hhd := hbat 0 (by rw [ops_length]; exact t.size_pos)
            rw [t.ops_head] at hhd
            simp only [Nat.zero_mul, Nat.add_zero] at hhd
            have c0 := (hbw.cell (p := ⟨b, off, none⟩) hblt).trans hhd.1
            have c1 := (hbw.cell (p := ⟨b, off + 1, none⟩) hblt).trans hhd.2
            have hln : 0 < t.ops.length := by rw [ops_length]; exact t.size_pos
            generalize hol : t.ops.length = ol at *
            have HHE : Hid (IntsV wr (.slice eao en ecap) env) := HE.out.below hbw
            have hrow := HR.out
            clear hbat hbh hol hhd HV HT HS HR HR0 HBo ih hk hki
            cases t with
            | leaf k v =>
              have hi0 : i = 0 := HNP.out
              subst hi0
              simp only [kind, val] at c0 c1
              have HRv : Hid (res = some (if k = 1 then v else if k = 2 then env.getD v.toNat 0 else if k = 11 then 1 else 0)) := HRS.out.symm
              have hgd : (k = 1 ∧ -1000 ≤ v ∧ v ≤ 1000) ∨ (k = 2 ∧ 0 ≤ v ∧ v ≤ (en : Int) - 1) ∨ ((k = 11 ∨ k = 12) ∧ v = 0) := HGT.out.1
              clear HRS HGT HNP hrow
              rcases hgd with ⟨rfl, hv1, hv2⟩ | ⟨rfl, hv1, hv2⟩ | ⟨rfl | rfl, rfl⟩
              · have hin := fun w => in_any v (-1000000) 1000000 w
                rw [decide_eq_true (show -1000000 ≤ v ∧ v ≤ 1000000 by omega)] at hin
                go_wp2_with (go_at_call 26; refine (hin _).mono ?_; rintro e w2 ⟨rfl, rfl⟩)
                go_ret2
                rw [HRv.out]
                exact ⟨rfl, hbw⟩
              · obtain ⟨j, rfl⟩ : ∃ j : Nat, v = (j : Int) := ⟨v.toNat, by omega⟩
                have hj : j < env.length := by rw [hen.out]; omega
                obtain ⟨eb, eoff, hea, _, hec⟩ := (show IntsV wr (.slice eao en ecap) env from HHE.out) |> fun h => IntsV.atE h hj
                subst hea
                have hb := hev.out j hj
                have HEV : Hid (res = some (env.getD j 0)) := by show _ = _; rw [HRv.out]; simp
                generalize env.getD j 0 = y at *
                have hin := fun w => in_any y (-1000000) 1000000 w
                rw [decide_eq_true hb] at hin
                have hj0 : (0 : Int) ≤ (j : Int) := Int.natCast_nonneg _
                have hj1 : (j : Int) < (en : Int) := by omega
                clear HRv HHE
                go_wp2_with (go_at_call 26; refine (hin _).mono ?_; rintro e w2 ⟨rfl, rfl⟩)
                go_ret2
                rw [HEV.out]
                exact ⟨rfl, hbw⟩
              · have hin := fun w => in_any 1 (-1000000) 1000000 w
                rw [decide_eq_true (by omega)] at hin
                go_wp2_with (go_at_call 26; refine (hin _).mono ?_; rintro e w2 ⟨rfl, rfl⟩)
                go_ret2
                rw [HRv.out]
                exact ⟨rfl, hbw⟩
              · have hin := fun w => in_any 0 (-1000000) 1000000 w
                rw [decide_eq_true (by omega)] at hin
                go_wp2_with (go_at_call 26; refine (hin _).mono ?_; rintro e w2 ⟨rfl, rfl⟩)
                go_ret2
                rw [HRv.out]
                exact ⟨rfl, hbw⟩
            | un k v a =>
              have hi0 : i = 1 := HNP.out
              subst hi0
              obtain ⟨g, rfl, hg1, hg2, _, hg4⟩ := hrow.resolve_left (by omega)
              obtain ⟨x, hx, cx⟩ := hg4 0 (Nat.le_refl _) (by omega)
              simp only [kids, List.getD_cons_zero] at hx
              obtain ⟨hgk, hgv, hga⟩ := HGT.out.1
              have hty := HGT.out.2
              simp only [typed, Bool.and_eq_true, beq_iff_eq] at hty
              subst hgk hgv
              have hxx := (eval_le hev.out hen.out hga hty.2 x hx).2 (by rw [hty.1]; rfl)
              have HRv : Hid (res = some (1 - x)) := by show _ = _; rw [← HRS.out]; simp [eval, hx]
              simp only [kind, val] at c0 c1
              clear HRS HGT HNP hrow hg4 hx hga hty HHE
              rcases hxx with rfl | rfl
              · have hin := fun w => in_any 1 (-1000000) 1000000 w
                rw [decide_eq_true (by omega)] at hin
                go_wp2_with (go_at_call 26; refine (hin _).mono ?_; rintro e w2 ⟨rfl, rfl⟩)
                go_ret2
                rw [HRv.out]
                exact ⟨rfl, hbw⟩
              · have hin := fun w => in_any 0 (-1000000) 1000000 w
                rw [decide_eq_true (by omega)] at hin
                go_wp2_with (go_at_call 26; refine (hin _).mono ?_; rintro e w2 ⟨rfl, rfl⟩)
                go_ret2
                rw [HRv.out]
                exact ⟨rfl, hbw⟩
            | bi k v a a' =>
              have hi0 : i = 2 := HNP.out
              subst hi0
              obtain ⟨g, rfl, hg1, hg2, _, hg4⟩ := hrow.resolve_left (by omega)
              obtain ⟨x, hx, cx⟩ := hg4 0 (Nat.zero_le _) (by omega)
              obtain ⟨y, hy, cy⟩ := hg4 1 (Nat.zero_le _) (by omega)
              simp only [kids, List.getD_cons_zero, List.getD_cons_succ] at hx hy
              obtain ⟨hk3, hk9, hgv, hga, hga'⟩ := HGT.out.1
              have hty := HGT.out.2
              simp only [typed, Bool.and_eq_true, beq_iff_eq] at hty
              subst hgv
              have hxb := eval_le hev.out hen.out hga hty.1.2 x hx
              have hyb := eval_le hev.out hen.out hga' hty.2.2 y hy
              rw [hty.1.1] at hxb
              rw [hty.2.1] at hyb
              have HRv : Hid (res = lid (bin k x y)) := by show _ = _; rw [← HRS.out]; simp [eval, hx, hy]
              simp only [kind, val] at c0 c1
              obtain ⟨⟨hx1, hx2⟩, hxt⟩ := hxb
              obtain ⟨⟨hy1, hy2⟩, hyt⟩ := hyb
              clear HRS HGT HNP hrow hg4 hx hy hga hga' hty HHE
              have hm1 : -1000000000000 ≤ x * y ∧ x * y ≤ 1000000000000 := mul_big ⟨hx1, hx2⟩ ⟨hy1, hy2⟩
              have hkk : k = 3 ∨ k = 4 ∨ k = 5 ∨ k = 6 ∨ k = 7 ∨ k = 8 ∨ k = 9 := by omega
              rcases hkk with rfl | rfl | rfl | rfl | rfl | rfl | rfl
              · have hw : IntKind.i64.wrap (x + y) = x + y := wrE (by omega) (by omega)
                have hbn : bin 3 x y = x + y := rfl
                rw [hbn] at HRv
                have hin := fun w => in_any (x + y) (-1000000) 1000000 w
                by_cases hr : -1000000 ≤ x + y ∧ x + y ≤ 1000000
                · rw [decide_eq_true hr] at hin
                  have HR2 : Hid (res = some (x + y)) := by show _ = _; rw [HRv.out]; unfold lid; rw [if_pos hr]
                  clear HRv hbn
                  go_wp2_with fail
                  go_quiet (fail)
                  go_wp2_with (go_at_call 26; refine (hin _).mono ?_; rintro e w2 ⟨rfl, rfl⟩)
                  go_ret2
                  rw [HR2.out]
                  exact ⟨rfl, below_drewN hbw _⟩
                · rw [decide_eq_false hr] at hin
                  have HR2 : Hid (res = none) := by show _ = _; rw [HRv.out]; unfold lid; rw [if_neg hr]
                  clear HRv hbn hr
                  go_wp2_with fail
                  go_quiet (fail)
                  go_wp2_with (go_at_call 26; refine (hin _).mono ?_; rintro e w2 ⟨rfl, rfl⟩)
                  go_ret2
                  rw [HR2.out]
                  exact ⟨rfl, below_drewN hbw _⟩
              · have hw : IntKind.i64.wrap (x - y) = x - y := wrE (by omega) (by omega)
                have hbn : bin 4 x y = x - y := rfl
                rw [hbn] at HRv
                have hin := fun w => in_any (x - y) (-1000000) 1000000 w
                by_cases hr : -1000000 ≤ x - y ∧ x - y ≤ 1000000
                · rw [decide_eq_true hr] at hin
                  have HR2 : Hid (res = some (x - y)) := by show _ = _; rw [HRv.out]; unfold lid; rw [if_pos hr]
                  clear HRv hbn
                  go_wp2_with fail
                  go_quiet (fail)
                  go_wp2_with (go_at_call 26; refine (hin _).mono ?_; rintro e w2 ⟨rfl, rfl⟩)
                  go_ret2
                  rw [HR2.out]
                  exact ⟨rfl, below_drewN hbw _⟩
                · rw [decide_eq_false hr] at hin
                  have HR2 : Hid (res = none) := by show _ = _; rw [HRv.out]; unfold lid; rw [if_neg hr]
                  clear HRv hbn hr
                  go_wp2_with fail
                  go_quiet (fail)
                  go_wp2_with (go_at_call 26; refine (hin _).mono ?_; rintro e w2 ⟨rfl, rfl⟩)
                  go_ret2
                  rw [HR2.out]
                  exact ⟨rfl, below_drewN hbw _⟩
              · have hw : IntKind.i64.wrap (x * y) = x * y := wrE (by omega) (by omega)
                have hbn : bin 5 x y = x * y := rfl
                rw [hbn] at HRv
                have hin := fun w => in_any (x * y) (-1000000) 1000000 w
                by_cases hr : -1000000 ≤ x * y ∧ x * y ≤ 1000000
                · rw [decide_eq_true hr] at hin
                  have HR2 : Hid (res = some (x * y)) := by show _ = _; rw [HRv.out]; unfold lid; rw [if_pos hr]
                  clear HRv hbn
                  go_wp2_with fail
                  go_quiet (fail)
                  go_wp2_with (go_at_call 26; refine (hin _).mono ?_; rintro e w2 ⟨rfl, rfl⟩)
                  go_ret2
                  rw [HR2.out]
                  exact ⟨rfl, below_drewN hbw _⟩
                · rw [decide_eq_false hr] at hin
                  have HR2 : Hid (res = none) := by show _ = _; rw [HRv.out]; unfold lid; rw [if_neg hr]
                  clear HRv hbn hr
                  go_wp2_with fail
                  go_quiet (fail)
                  go_wp2_with (go_at_call 26; refine (hin _).mono ?_; rintro e w2 ⟨rfl, rfl⟩)
                  go_ret2
                  rw [HR2.out]
                  exact ⟨rfl, below_drewN hbw _⟩
              · have hbn : bin 6 x y = if x = y then 1 else 0 := rfl
                rw [hbn] at HRv
                by_cases hc : x = y
                · have hin := fun w => in_any 1 (-1000000) 1000000 w
                  rw [decide_eq_true (by omega)] at hin
                  have HR2 : Hid (res = some 1) := by show _ = _; rw [HRv.out, if_pos hc]; rfl
                  clear HRv hbn
                  subst hc
                  go_wp2_with fail
                  go_quiet (fail)
                  go_wp2_with (go_at_call 26; refine (hin _).mono ?_; rintro e w2 ⟨rfl, rfl⟩)
                  go_ret2
                  rw [HR2.out]
                  exact ⟨rfl, below_drewN hbw _⟩
                · have hin := fun w => in_any 0 (-1000000) 1000000 w
                  rw [decide_eq_true (by omega)] at hin
                  have HR2 : Hid (res = some 0) := by show _ = _; rw [HRv.out, if_neg hc]; rfl
                  have hne : (x == y) = false := by simpa using hc
                  clear HRv hbn
                  go_wp2_with fail
                  go_quiet (fail)
                  go_wp2_with (go_at_call 26; refine (hin _).mono ?_; rintro e w2 ⟨rfl, rfl⟩)
                  go_ret2
                  rw [HR2.out]
                  exact ⟨rfl, below_drewN hbw _⟩
              · have hbn : bin 7 x y = if x < y then 1 else 0 := rfl
                rw [hbn] at HRv
                by_cases hc : x < y
                · have hin := fun w => in_any 1 (-1000000) 1000000 w
                  rw [decide_eq_true (by omega)] at hin
                  have HR2 : Hid (res = some 1) := by show _ = _; rw [HRv.out, if_pos hc]; rfl
                  clear HRv hbn
                  skip
                  go_wp2_with fail
                  go_quiet (fail)
                  go_wp2_with (go_at_call 26; refine (hin _).mono ?_; rintro e w2 ⟨rfl, rfl⟩)
                  go_ret2
                  rw [HR2.out]
                  exact ⟨rfl, below_drewN hbw _⟩
                · have hin := fun w => in_any 0 (-1000000) 1000000 w
                  rw [decide_eq_true (by omega)] at hin
                  have HR2 : Hid (res = some 0) := by show _ = _; rw [HRv.out, if_neg hc]; rfl
                  skip
                  clear HRv hbn
                  go_wp2_with fail
                  go_quiet (fail)
                  go_wp2_with (go_at_call 26; refine (hin _).mono ?_; rintro e w2 ⟨rfl, rfl⟩)
                  go_ret2
                  rw [HR2.out]
                  exact ⟨rfl, below_drewN hbw _⟩
              · have hxx := hxt rfl
                have hyy := hyt rfl
                rcases hxx with rfl | rfl <;> rcases hyy with rfl | rfl
                · have hin := fun w => in_any 0 (-1000000) 1000000 w
                  rw [decide_eq_true (by omega)] at hin
                  have HR2 : Hid (res = some 0) := by show _ = _; rw [HRv.out]; rfl
                  clear HRv
                  go_wp2_with (go_at_call 26; refine (hin _).mono ?_; rintro e w2 ⟨rfl, rfl⟩)
                  go_ret2
                  rw [HR2.out]
                  exact ⟨rfl, hbw⟩
                · have hin := fun w => in_any 0 (-1000000) 1000000 w
                  rw [decide_eq_true (by omega)] at hin
                  have HR2 : Hid (res = some 0) := by show _ = _; rw [HRv.out]; rfl
                  clear HRv
                  go_wp2_with (go_at_call 26; refine (hin _).mono ?_; rintro e w2 ⟨rfl, rfl⟩)
                  go_ret2
                  rw [HR2.out]
                  exact ⟨rfl, hbw⟩
                · have hin := fun w => in_any 0 (-1000000) 1000000 w
                  rw [decide_eq_true (by omega)] at hin
                  have HR2 : Hid (res = some 0) := by show _ = _; rw [HRv.out]; rfl
                  clear HRv
                  go_wp2_with (go_at_call 26; refine (hin _).mono ?_; rintro e w2 ⟨rfl, rfl⟩)
                  go_ret2
                  rw [HR2.out]
                  exact ⟨rfl, hbw⟩
                · have hin := fun w => in_any 1 (-1000000) 1000000 w
                  rw [decide_eq_true (by omega)] at hin
                  have HR2 : Hid (res = some 1) := by show _ = _; rw [HRv.out]; rfl
                  clear HRv
                  go_wp2_with (go_at_call 26; refine (hin _).mono ?_; rintro e w2 ⟨rfl, rfl⟩)
                  go_ret2
                  rw [HR2.out]
                  exact ⟨rfl, hbw⟩
              · have hxx := hxt rfl
                have hyy := hyt rfl
                rcases hxx with rfl | rfl <;> rcases hyy with rfl | rfl
                · have hin := fun w => in_any 0 (-1000000) 1000000 w
                  rw [decide_eq_true (by omega)] at hin
                  have HR2 : Hid (res = some 0) := by show _ = _; rw [HRv.out]; rfl
                  clear HRv
                  go_wp2_with (go_at_call 26; refine (hin _).mono ?_; rintro e w2 ⟨rfl, rfl⟩)
                  go_ret2
                  rw [HR2.out]
                  exact ⟨rfl, hbw⟩
                · have hin := fun w => in_any 1 (-1000000) 1000000 w
                  rw [decide_eq_true (by omega)] at hin
                  have HR2 : Hid (res = some 1) := by show _ = _; rw [HRv.out]; rfl
                  clear HRv
                  go_wp2_with (go_at_call 26; refine (hin _).mono ?_; rintro e w2 ⟨rfl, rfl⟩)
                  go_ret2
                  rw [HR2.out]
                  exact ⟨rfl, hbw⟩
                · have hin := fun w => in_any 1 (-1000000) 1000000 w
                  rw [decide_eq_true (by omega)] at hin
                  have HR2 : Hid (res = some 1) := by show _ = _; rw [HRv.out]; rfl
                  clear HRv
                  go_wp2_with (go_at_call 26; refine (hin _).mono ?_; rintro e w2 ⟨rfl, rfl⟩)
                  go_ret2
                  rw [HR2.out]
                  exact ⟨rfl, hbw⟩
                · have hin := fun w => in_any 1 (-1000000) 1000000 w
                  rw [decide_eq_true (by omega)] at hin
                  have HR2 : Hid (res = some 1) := by show _ = _; rw [HRv.out]; rfl
                  clear HRv
                  go_wp2_with (go_at_call 26; refine (hin _).mono ?_; rintro e w2 ⟨rfl, rfl⟩)
                  go_ret2
                  rw [HR2.out]
                  exact ⟨rfl, hbw⟩
end Go.Proofs.YtbcjhkhndahdhaaDoor
