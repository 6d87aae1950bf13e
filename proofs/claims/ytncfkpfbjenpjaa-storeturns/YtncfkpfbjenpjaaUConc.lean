/-
  The library's slices.Grow and slices.Concat at lists of lists of numbers.
-/
import Derived.Test.YtncfkpfbjenpjaaUApp
import Derived.Lib.AppendZeros
namespace Go.Proofs.Ytncfkpfbjenpjaa
open Go.ChangeShapes Go.WideShapes Go.ChangeAt Go.RowKit Go.Deep

/-- the lists that these slices hold, each with something that is known of it. -/
def LisP (p : Value → List Int → Prop) (us : List Value) (rs : List (List Int)) : Prop := us.length = rs.length ∧ ∀ i, i < rs.length → p (us.getD i nilV) (rs.getD i [])
theorem LisP.nil (p : Value → List Int → Prop) : LisP p [] [] := ⟨rfl, fun i hi => by simp at hi⟩
theorem LisP.append {p : Value → List Int → Prop} {us vs : List Value} {rs ls : List (List Int)} (h1 : LisP p us rs) (h2 : LisP p vs ls) : LisP p (us ++ vs) (rs ++ ls) := by
  refine ⟨by simp [h1.1, h2.1], fun i hi => ?_⟩
  rw [getD_app, getD_app, h1.1]
  split
  · rename_i h; exact h1.2 i h
  · rename_i h; exact h2.2 _ (by simp at hi; omega)
theorem LisP.one {p : Value → List Int → Prop} (hp : ∀ v l, p v l → ∃ ao cap, v = Value.slice ao l.length cap) {us : List Value} {rs : List (List Int)} (h : LisP p us rs) : ∀ u ∈ us, u.oneCell' = true := by
  intro u hu
  obtain ⟨i, hi, rfl⟩ := List.mem_iff_getElem.1 hu
  obtain ⟨a, c, e⟩ := hp _ _ (h.2 i (by rw [← h.1]; exact hi))
  rw [getD_get hi] at e
  rw [e]
  rfl
/-- lists that lie somewhere, each with something that is known of it. -/
def LisVP (p : Value → List Int → Prop) (w : World) (v : Value) (rs : List (List Int)) : Prop := ∃ (us : List Value) (ao : Option Addr) (cap : Nat), v = .slice ao rs.length cap ∧ (rs.length ≤ cap ∧ (ao = none → cap = 0 ∧ rs = [])) ∧ us.length = rs.length ∧ (∀ i, i < rs.length → p (us.getD i nilV) (rs.getD i [])) ∧ (rs ≠ [] → ∃ b off, ao = some ⟨b, off, none⟩ ∧ b < w.heap.size ∧ ∀ i, i < rs.length → w.cell? ⟨b, off + i, none⟩ = some (us.getD i nilV))
theorem LisVP.shape {p : Value → List Int → Prop} {w : World} {v : Value} {rs : List (List Int)} (h : LisVP p w v rs) : ∃ ao cap, v = .slice ao rs.length cap := by
  obtain ⟨us, ao, cap, rfl, _⟩ := h
  exact ⟨_, _, rfl⟩
/-- the lists that these slices hold. -/
def LisU (w : World) (us : List Value) (rs : List (List Int)) : Prop := us.length = rs.length ∧ ∀ i, i < rs.length → IntsV w (us.getD i nilV) (rs.getD i [])
theorem LisU.nil (w : World) : LisU w [] [] := ⟨rfl, fun i hi => by simp at hi⟩
theorem LisU.append {w : World} {us vs : List Value} {rs ls : List (List Int)} (h1 : LisU w us rs) (h2 : LisU w vs ls) : LisU w (us ++ vs) (rs ++ ls) := by
  refine ⟨by simp [h1.1, h2.1], fun i hi => ?_⟩
  rw [getD_app, getD_app, h1.1]
  split
  · rename_i h; exact h1.2 i h
  · rename_i h; exact h2.2 _ (by simp at hi; omega)
theorem LisU.one {w : World} {us : List Value} {rs : List (List Int)} (h : LisU w us rs) : ∀ u ∈ us, u.oneCell' = true := by
  intro u hu
  obtain ⟨i, hi, rfl⟩ := List.mem_iff_getElem.1 hu
  obtain ⟨a, c, e⟩ := (h.2 i (by rw [← h.1]; exact hi)).shape
  rw [getD_get hi] at e
  rw [e]
  rfl
theorem LisU.below {w w' : World} {us : List Value} {rs : List (List Int)} (h : LisU w us rs) (hb : Below w.heap.size w w') : LisU w' us rs := ⟨h.1, fun i hi => (h.2 i hi).below hb⟩
theorem lisV_of_owns {w : World} {base n : Nat} {v : Value} {us : List Value} {rs : List (List Int)} (h : w.ownsRow base 22 1 v n us) (hu : LisU w us rs) : LisV w v rs := by
  have hn : rs.length = n := by have := h.1; have := hu.1; omega
  subst hn
  rcases h.2 with ⟨rfl, h0⟩ | ⟨g, cap, cur, rfl, hb, hg, hnc, hcm, hcs, htake⟩
  · have : rs = [] := by simpa using h0
    subst this
    exact LisV.nil w
  · refine ⟨us, _, cap, rfl, ⟨hnc, fun h => by simp at h⟩, hu.1, hu.2, fun _ => ⟨g, 0, rfl, (Array.getElem?_eq_some_iff.1 hg).1, fun i hi => ?_⟩⟩
    rw [Nat.zero_add, h.cellAt i (by omega)]
    simp [List.getD_eq_getElem?_getD, show i < us.length by have := hu.1; omega]

set_option maxHeartbeats 800000 in
set_option maxRecDepth 20000 in
theorem grow_any (n : Nat) (w : World) (h0 : 0 < n) (h24 : n ≤ 40000) :
    Calls Try.prog 41 #[.slice none 0 0, .int .i64 (n : Int)] w fun e w' => ∃ B cap, e = .returned (.slice (some ⟨B, 0, none⟩) 0 cap) ∧ Below w.heap.size w w' ∧ w'.ownsRow w.heap.size 22 1 (.slice (some ⟨B, 0, none⟩) 0 cap) 0 [] := by
  obtain ⟨i0, hi, hz0, hz1, hz2⟩ := info_parts infoInts
  have hrz : ∀ ty, (Builtin.append_ #[23, 3] ty #[.slice none 0 0, .int .i64 (n : Int)]).run Try.prog w = .ok (.slice (some ⟨w.heap.size, 0, none⟩) n (grownCap w n 0 22)) (w.drew.alloc (.cells (Builtin.zeroCells (Value.slice none 0 0).cells n ++ Builtin.zeroCells (Value.slice none 0 0).cells (grownCap w n 0 22 - n)) 22)) := fun ty =>
    Lib.run_append_nil_zeros w 23 3 ty 22 i0 (.slice none 0 0) .i64 .i64 Try.underlying23 Try.underlying3 hi hz0 n h0 (by omega) (by omega) (by rw [hz2]; omega)
  have hge := grownCap_ge w n 0 22
  have hle := grownCap_le_maxLen w n 0 22 (by unfold maxLen; omega)
  generalize grownCap w n 0 22 = G at hrz hge hle
  have hG : G ≤ 9223372036854775807 := by unfold maxLen at hle; omega
  have hn : ¬ (n : Int) < 0 := by omega
  have hn2 : (n : Int) > 0 := by omega
  go_enter Try.func41, Try.ntmps41
  go_wp2_with (at_builtin; refine Lib.wpList_append_run _ rfl _ _ _ _ rfl _ _ rfl rfl _ _ (hrz _) ?_)
  go_ret
  refine ⟨_, _, rfl, (below_drewN (Below.refl _ _) 1).alloc (Nat.le_refl _) _, ?_⟩
  refine ⟨rfl, .inr ⟨w.heap.size, G, Builtin.zeroCells #[Value.slice none 0 0] n ++ Builtin.zeroCells #[Value.slice none 0 0] (G - n), rfl, Nat.le_refl _, ?_, Nat.zero_le _, hle, ?_, by simp⟩⟩
  · show (w.heap.push _)[w.heap.size]? = _
    simp
  · simp [size_zeroCells]
    omega

/-- what stands in the row ahead of each list. -/
def accL (ss ll : List (List Int)) (k : Nat) : List (List Int) := if k = 0 then [] else if k = 1 then ss else ss ++ ll
def zL (a b : Nat) (k : Nat) : Int := if k = 0 then 0 else if k = 1 then (a : Int) else (a : Int) + (b : Int)
/-- the list of this number. -/
theorem concat_at {p : Value → List Int → Prop} {w0 w : World} {g : Nat} {so lo : Option Addr} {sn ln sc lc : Nat} {ss ll : List (List Int)} (hsn : sn = ss.length) (hln : ln = ll.length) (h1 : sn ≤ 20000) (h2 : ln ≤ 20000) (hS : LisVP p w0 (.slice so sn sc) ss) (hL : LisVP p w0 (.slice lo ln lc) ll) (c0 : w.cell? ⟨g, 0, none⟩ = some (.slice so sn sc)) (c1 : w.cell? ⟨g, 1, none⟩ = some (.slice lo ln lc)) {k : Nat} (hk : k < 2) :
    ∃ xo xn xc xl, w.cell? ⟨g, k, none⟩ = some (.slice xo xn xc) ∧ zL sn ln (k + 1) = zL sn ln k + (xn : Int) ∧ 0 ≤ zL sn ln k ∧ zL sn ln k ≤ 20000 ∧ xn ≤ 20000 ∧ xn = xl.length ∧ accL ss ll (k + 1) = accL ss ll k ++ xl ∧ (accL ss ll k).length ≤ 20000 ∧ LisVP p w0 (.slice xo xn xc) xl := by
  have hk2 : k = 0 ∨ k = 1 := by omega
  rcases hk2 with rfl | rfl
  · exact ⟨so, sn, sc, ss, c0, by simp [zL], by simp [zL], by simp [zL], h1, hsn, by simp [accL], by simp [accL], hS⟩
  · exact ⟨lo, ln, lc, ll, c1, by simp [zL], by simp [zL], by simp [zL]; omega, h2, hln, by simp [accL], by simp [accL]; omega, hL⟩
theorem lets_cells {p : Value → List Int → Prop} {w : World} {b off : Nat} {us : List Value} {xl : List (List Int)} (hu : LisP p us xl) (h : ∀ i, i < xl.length → w.cell? ⟨b, off + i, none⟩ = some (us.getD i nilV)) : ∀ j u, us[j]? = some u → w.cell? ((⟨b, off, none⟩ : Addr).add j) = some u := by
  intro j u hj
  have hlt := (List.getElem?_eq_some_iff.1 hj).1
  rw [Go.WideShapes.add_plain, h j (by rw [← hu.1]; exact hlt), List.getD_eq_getElem?_getD, hj]
  rfl

set_option maxHeartbeats 1600000 in
set_option maxRecDepth 20000 in
/-- THE CONTRACT OF slices.Concat at two lists of letters. -/
theorem concat_p (p : Value → List Int → Prop) (hp : ∀ v l, p v l → ∃ ao cap, v = Value.slice ao l.length cap) (g : Nat) (sv lv : Value) (ss ll : List (List Int)) (w0 w : World) (hb0 : Below w0.heap.size w0 w) (h1 : ss.length ≤ 20000) (h2 : ll.length ≤ 20000) (h0 : 1 ≤ ll.length) (hS : LisVP p w0 sv ss) (hL : LisVP p w0 lv ll) (c0 : w.cell? ⟨g, 0, none⟩ = some sv) (c1 : w.cell? ⟨g, 1, none⟩ = some lv) :
    Calls Try.prog 31 #[.slice (some ⟨g, 0, none⟩) 2 2] w fun e w' => ∃ B cap, e = .returned (.slice (some ⟨B, 0, none⟩) (ss.length + ll.length) cap) ∧ Below w.heap.size w w' ∧ Hid (∃ us, w'.ownsRow w.heap.size 22 1 (.slice (some ⟨B, 0, none⟩) (ss.length + ll.length) cap) us.length us ∧ LisP p us (ss ++ ll)) := by
  have hg := World.block_lt_of_cell? w ⟨g, 0, none⟩ c0
  obtain ⟨i0, hi, hz0, hz1, hz2⟩ := info_parts infoInts
  obtain ⟨so, sc, rfl⟩ := hS.shape
  obtain ⟨lo, lc, rfl⟩ := hL.shape
  have HAt : Hid (∀ k, k < 2 → ∃ xo xn xc xl, w.cell? ⟨g, k, none⟩ = some (.slice xo xn xc) ∧ zL ss.length ll.length (k + 1) = zL ss.length ll.length k + (xn : Int) ∧ 0 ≤ zL ss.length ll.length k ∧ zL ss.length ll.length k ≤ 20000 ∧ xn ≤ 20000 ∧ xn = xl.length ∧ accL ss ll (k + 1) = accL ss ll k ++ xl ∧ (accL ss ll k).length ≤ 20000 ∧ LisVP p w0 (.slice xo xn xc) xl) := fun k hk => concat_at rfl rfl h1 h2 hS hL c0 c1 hk
  have HZ0 : Hid (zL ss.length ll.length 0 = 0) := rfl
  have HZ2 : Hid (zL ss.length ll.length 2 = ((ss.length + ll.length : Nat) : Int)) := by show _ = _; simp [zL]
  have HA0 : Hid (accL ss ll 0 = []) := rfl
  have HA2 : Hid (accL ss ll 2 = ss ++ ll) := rfl
  have hgr := fun w1 => grow_any (ss.length + ll.length) w1 (by omega) (by omega)
  have HLen : Hid ((ss ++ ll).length = ss.length + ll.length) := List.length_append
  obtain ⟨tn, htn⟩ : ∃ tn, tn = ss.length + ll.length := ⟨_, rfl⟩
  rw [← htn] at hgr HLen HZ2 ⊢
  have ht24 : tn ≤ 40000 := by omega
  have ht0 : 0 < tn := by omega
  generalize zL ss.length ll.length = zz at *
  generalize accL ss ll = ac at *
  clear hS hL c0 c1 h1 h2 h0 htn
  go_enter Try.func31, Try.ntmps31
  go_wp2
  go_loop [3, 11] (fun z i => ∃ k : Nat, k ≤ 2 ∧ i = .int .i64 (k : Int) ∧ z = .int .i64 (zz k)) (fun _ i => 2 - (intOf i).toNat)
  case atStart => exact ⟨0, by omega, rfl, by rw [HZ0.out]⟩
  case round =>
    obtain ⟨k, hk, rfl, rfl⟩ := hrel
    by_cases hlt : k < 2
    · obtain ⟨xo, xn, xc, xl, hc, hz, hz00, hz12, hx12, hr⟩ := HAt.out k hlt
      clear hr
      have HZ : Hid (zz (k + 1) = zz k + (xn : Int)) := hz
      clear hz
      generalize zz k = z0 at *
      go_wp2
      go_round
      case rel => exact ⟨k + 1, hlt, by go_num, by rw [HZ.out]⟩
      case measure => simp [intOf]; omega
    · obtain rfl : k = 2 := by omega
      rw [HZ2.out]
      go_wp2_with (go_at_call 41; refine (hgr _).mono ?_; rintro e w1 ⟨B, cap, rfl, hb1, ho1⟩)
      clear hgr
      go_loopw [6, 27] (fun nv i wr => ∃ k : Nat, k ≤ 2 ∧ i = .int .i64 (k : Int) ∧ ∃ B cap, nv = .slice (some ⟨B, 0, none⟩) (ac k).length cap ∧ Hid (∃ us, wr.ownsRow w.heap.size 22 1 nv us.length us ∧ LisP p us (ac k)) ∧ Below w.heap.size w wr) (fun _ i _ => 2 - (intOf i).toNat)
      case atStart => exact ⟨0, by omega, rfl, B, cap, by rw [HA0.out]; rfl, ⟨[], ho1, by rw [HA0.out]; exact LisP.nil _⟩, hb1⟩
      case round =>
        obtain ⟨k, hk, rfl, B, cap, rfl, HU, hbel⟩ := hrel
        by_cases hlt : k < 2
        · obtain ⟨xo, xn, xc, xl, hc, _, _, _, hx12, hxn, hac, hal, hX⟩ := HAt.out k hlt
          have hcr := (hbel.cell (p := ⟨g, k, none⟩) hg).trans hc
          obtain ⟨us, hown, hus⟩ := HU.out
          have HUS : Hid (LisP p us (ac k)) := hus
          have HXN : Hid (xn = xl.length) := hxn
          have HAC : Hid (ac (k + 1) = ac k ++ xl) := hac
          have hul : us.length = (ac k).length := hus.1
          obtain ⟨vs, xo', xc', hxv, ⟨_, hx0⟩, hvl0, hvi0, hxat⟩ := hX
          have hvs : LisP p vs xl := ⟨hvl0, hvi0⟩
          clear hvl0 hvi0
          injection hxv with e1 e2 e3
          subst e1 e3
          rw [← hul] at hal hown ⊢
          clear hxn hac hus e2 HU hul
          cases xo with
          | none =>
            obtain ⟨hc0, hl0⟩ := hx0 rfl
            have HL0 : Hid (xl = []) := hl0
            have hxn0 : xn = 0 := by rw [HXN.out, HL0.out]; rfl
            subst hxn0 hc0
            clear hx0 hxat hl0 hvs
            go_wp2_with (at_builtin; refine wpList_append_own_none rfl (.tmp 31) (.tmp 32) 23 rfl w.heap.size 22 i0 1 Try.underlying23 hi _ _ _ rfl hown rfl ?_)
            go_roundw
            case rel => exact ⟨k + 1, hlt, by go_num, B, cap, by rw [HAC.out, HL0.out, List.append_nil, ← HUS.out.1], ⟨us, hown, by rw [HAC.out, HL0.out, List.append_nil]; exact HUS.out⟩, hbel⟩
            case measure => simp [intOf]; omega
          | some a =>
            have hcells : ∀ j u, vs[j]? = some u → wr.cell? (a.add j) = some u := by
              intro j u hj
              have hjl : j < xl.length := by rw [← hvs.1]; exact (List.getElem?_eq_some_iff.1 hj).1
              obtain ⟨b, off, e, hbl, hat⟩ := hxat (by rintro rfl; simp at hjl)
              obtain rfl := Option.some.inj e
              have := lets_cells hvs hat j u hj
              rw [Go.WideShapes.add_plain] at this ⊢
              exact ((hb0.trans (hbel.mono hb0.size)).cell (p := ⟨b, off + j, none⟩) hbl).trans this
            have HVS : Hid (LisP p vs xl) := hvs
            have hvl : vs.length = xn * 1 := by rw [hvs.1, HXN.out]; omega
            have hv1 := hvs.one hp
            have hbsz := hbel.size
            have hnb := hown.lt
            clear hx0 hxat hvs
            go_wp2_with (at_builtin; refine wpList_append_own _ rfl (.tmp 31) (.tmp 32) 23 rfl w.heap.size 22 i0 (.slice none 0 0) 1 24 Try.underlying23 hi hz0 hz1 hz2 rfl (by decide) (.slice (some ⟨B, 0, none⟩) us.length cap) us.length us rfl hown a xn xc vs rfl hvl hcells hv1 (by unfold maxLen; omega) (by omega) hbsz ?_; intro v' w4 hown' hgrow hne)
            have hb4 : Below w.heap.size w w4 := hbel.grown hgrow hbsz (fun q hq => (hnb q hq).1)
            have hlen4 : (us ++ vs).length = us.length + xn := by rw [List.length_append]; omega
            obtain ⟨B4, cap4, rfl⟩ : ∃ B4 cap4, v' = .slice (some ⟨B4, 0, none⟩) (us.length + xn) cap4 := by
              rcases hown'.2 with ⟨h, _⟩ | ⟨g', cap', cur', h, _⟩
              · exact absurd (hne.1 h).1 (by simp)
              · exact ⟨_, _, h⟩
            have HLn : Hid (us.length + xn = (ac (k + 1)).length) := by show _ = _; rw [HAC.out, List.length_append, ← HUS.out.1, HXN.out]
            have HU4 : Hid (∃ zs, w4.ownsRow w.heap.size 22 1 (.slice (some ⟨B4, 0, none⟩) (us.length + xn) cap4) zs.length zs ∧ LisP p zs (ac (k + 1))) := ⟨us ++ vs, by rw [hlen4]; exact hown', by rw [HAC.out]; exact HUS.out.append HVS.out⟩
            clear hown' hgrow hown hcells hne
            go_roundw
            case rel => exact ⟨k + 1, hlt, by go_num, B4, cap4, by rw [HLn.out], HU4, hb4⟩
            case measure => simp [intOf]; omega
        · obtain rfl : k = 2 := by omega
          have HF : Hid (∃ us, wr.ownsRow w.heap.size 22 1 (.slice (some ⟨B, 0, none⟩) tn cap) us.length us ∧ LisP p us (ss ++ ll)) := by
            obtain ⟨us, h1, h2⟩ := HU.out
            rw [HA2.out] at h1 h2
            rw [HLen.out] at h1
            exact ⟨us, h1, h2⟩
          rw [HA2.out, HLen.out]
          clear HU
          go_wp2
          go_ret
          exact ⟨_, _, rfl, hbel, HF⟩

theorem concat_own (g : Nat) (sv lv : Value) (ss ll : List (List Int)) (w0 w : World) (hb0 : Below w0.heap.size w0 w) (h1 : ss.length ≤ 20000) (h2 : ll.length ≤ 20000) (h0 : 1 ≤ ll.length) (hS : LisV w0 sv ss) (hL : LisV w0 lv ll) (c0 : w.cell? ⟨g, 0, none⟩ = some sv) (c1 : w.cell? ⟨g, 1, none⟩ = some lv) :
    Calls Try.prog 31 #[.slice (some ⟨g, 0, none⟩) 2 2] w fun e w' => ∃ B cap, e = .returned (.slice (some ⟨B, 0, none⟩) (ss.length + ll.length) cap) ∧ Below w.heap.size w w' ∧ Hid (∃ us, w'.ownsRow w.heap.size 22 1 (.slice (some ⟨B, 0, none⟩) (ss.length + ll.length) cap) us.length us ∧ LisU w0 us (ss ++ ll)) :=
  concat_p (IntsV w0) (fun _ _ h => h.shape) g sv lv ss ll w0 w hb0 h1 h2 h0 hS hL c0 c1
end Go.Proofs.Ytncfkpfbjenpjaa
