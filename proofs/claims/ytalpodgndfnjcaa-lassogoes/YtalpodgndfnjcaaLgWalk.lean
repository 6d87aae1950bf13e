/-
  The walk of LassoGoes.
-/
import Derived.Test.YtalpodgndfnjcaaKLasso
namespace Go.Proofs.Ytalpodgndfnjcaa
open Go.ChangeShapes Go.WideShapes Go.ChangeAt Go.RowKit Go.Deep
open Terms

section
variable {P : Program} {w : World}
open Go.Region
theorem run_app0 (t ty e : TypeId) (i : TypeInfo) (ht : P.underlying t = some (.slice e)) (hi : P.info? e = some i) (so : Option Addr) (sc : Nat) :
    (Builtin.append_ #[t, t] ty #[.slice none 0 0, .slice so 0 sc]).run P w = .ok (.slice none 0 0) w := by
  cases so with
  | none => simp [Builtin.append_, run_underlying ht, sizeOf, typeInfo, hi, Builtin.lenOf, Builtin.firstCells]
  | some a => simp [Builtin.append_, run_underlying ht, sizeOf, typeInfo, hi, Builtin.lenOf, Builtin.firstCells, loadCells, loadCellsFrom]
theorem step_app0 {ops : Array Oper} {o : Oper} {a : Act} {K : Act → World → Prop} {Q : Exit → Act → World → Prop} {E : Prop} (hgd : o.guard = none) (x : Operand) (t : TypeId)
    (ho : o.op = .call { callee := .builtin .append, args := #[.const (.slice none 0 0), x], argTypes := #[t, t] })
    (e : TypeId) (i : TypeInfo) (ht : P.underlying t = some (.slice e)) (hi : P.info? e = some i) (so : Option Addr) (sc : Nat) (hx : a.eval x = .slice so 0 sc) (h : K (a.put o.dst (.slice none 0 0)) w) :
    if Region.wanted o (yielded ops a.tmps) = true then Oper.wp P o a w K Q else E := by
  have hw : Region.wanted o (yielded ops a.tmps) = true := by simp [Region.wanted, hgd]
  rw [if_pos hw]
  have hr := run_app0 (P := P) (w := w) t o.type e i ht hi so sc
  have hs : a.eval (.const (.slice none 0 0)) = .slice none 0 0 := rfl
  unfold Oper.wp execOp
  simp only [ho, resolve, invoke, builtin, Sem.run_bind, Sem.run_pure, Result.andThen_ok, List.map_toArray, List.map_cons, List.map_nil, hs, hx, hr]
  exact h
end
theorem addP (b off j : Nat) : (⟨b, off, none⟩ : Addr).add j = ⟨b, off + j, none⟩ := by unfold Addr.add; split <;> simp_all
/-- the cells of a list of places, in every later memory. -/
theorem nats_news {w : World} {b off : Nat} {l : List Nat} (hb : b < w.heap.size) (hc : ∀ i, i < l.length → w.cell? ⟨b, off + i, none⟩ = some (.int .i64 (l.getD i 0 : Int))) : ∀ W : World, Below w.heap.size w W → ∀ (j : Nat) (u : Value), (nvals l)[j]? = some u → W.cell? ((⟨b, off, none⟩ : Addr).add j) = some u := fun W hW j u hj => by
  have hjl : j < l.length := by have := (List.getElem?_eq_some_iff.1 hj).1; simpa [nvals] using this
  rw [addP, hW.cell (p := ⟨b, off + j, none⟩) hb, hc j hjl]
  have h2 : (nvals l)[j]? = some (.int .i64 (l.getD j 0 : Int)) := by
    rw [nvals, List.getElem?_map, List.getElem?_eq_getElem hjl, List.getD_eq_getElem?_getD, List.getElem?_eq_getElem hjl]; rfl
  rw [h2] at hj
  exact hj
theorem nvals_one (l : List Nat) : ∀ u ∈ nvals l, u.oneCell' = true := fun u hu => by
  obtain ⟨y, _, rfl⟩ := List.mem_map.1 hu
  rfl
theorem nvals_len (l : List Nat) : (nvals l).length = l.length * 1 := by simp [nvals]

set_option maxHeartbeats 6400000 in
set_option maxRecDepth 20000 in
theorem lassoGoes_walk (nv bv : Value) (ls : List (List Int)) (bs : List Int) (wi wm : Int) (w : World) (hL : ListsR w nv ls) (hlz0 : ls.length * 24 ≤ 140737488355328) (hS : IntsR w bv bs) (hwi : I64 wi) (hwm : I64 wm) :
    Calls Try.prog 4 #[.agg #[nv, bv, .int .i64 wi, .int .i64 wm]] w fun e w' => e = .returned (.bool true) ∧ Below w.heap.size w w' := by
  have hlz : ls.length ≤ 140737488355328 := by omega
  obtain ⟨no, nc, rfl⟩ : ∃ no nc, nv = .slice no ls.length nc := by obtain ⟨us, a, c, h, _⟩ := hL; exact ⟨a, c, h⟩
  obtain ⟨bo, bc, rfl⟩ : ∃ bo bc, bv = .slice bo bs.length bc := by obtain ⟨a, c, h, _⟩ := hS.v; exact ⟨a, c, h⟩
  obtain ⟨W0, hW0⟩ : ∃ W0, W0 = w.alloc (.cells #[.slice no ls.length nc, .slice bo bs.length bc, .int .i64 wi, .int .i64 wm] 25) := ⟨_, rfl⟩
  have hA : Below w.heap.size w W0 := by rw [hW0]; exact (Below.refl _ _).alloc (Nat.le_refl _) _
  have hgr := graphFn_got no bo nc bc ls bs wi wm W0 (hL.below hA) hlz (hS.below hA) hwi hwm
  obtain ⟨i0, hi0, hz0, hz1, hz2⟩ := info_parts infoInt
  generalize ls.length = nl at *
  generalize bs.length = bl at *
  clear hL hS
  subst hW0
  go_enter Try.func4, Try.ntmps4
  go_upto_region 2 with (go_at_call 8; refine hgr.mono ?_; rintro e w1 ⟨so1, sc1, no1, nc1, bo1, bc1, n, gi, mm, g, rfl, hb1, hnm, HG⟩; clear hnm)
  clear hgr
  have HBx : Hid (∀ w', Below (w1.alloc (.cells #[.slice so1 n sc1, .int .i64 (gi : Int), .slice no1 n nc1, .slice bo1 n bc1, .int .i64 (mm : Int)] 28)).heap.size (w1.alloc (.cells #[.slice so1 n sc1, .int .i64 (gi : Int), .slice no1 n nc1, .slice bo1 n bc1, .int .i64 (mm : Int)] 28)) w' → KGot w' so1 sc1 no1 nc1 bo1 bc1 n gi mm g ∧ Below w1.heap.size w1 w' ∧ w1.heap.size < w'.heap.size ∧ w'.cell? ⟨w1.heap.size, 0, none⟩ = some (.slice so1 n sc1) ∧ w'.cell? ⟨w1.heap.size, 1, none⟩ = some (.int .i64 (gi : Int)) ∧ w'.cell? ⟨w1.heap.size, 2, none⟩ = some (.slice no1 n nc1) ∧ w'.cell? ⟨w1.heap.size, 3, none⟩ = some (.slice bo1 n bc1) ∧ w'.cell? ⟨w1.heap.size, 4, none⟩ = some (.int .i64 (mm : Int))) := HG.out.box rfl
  have hw1 : Below w.heap.size w w1 := hA.trans (hb1.mono hA.size)
  have hn20 := HG.out.small
  have HGk : Hid (g.spots.length = n ∧ GOk g ∧ g.init = gi ∧ g.many = mm) := ⟨HG.out.len, HG.out.ok, HG.out.init, HG.out.many⟩
  generalize w1.alloc (.cells #[.slice so1 n sc1, .int .i64 (gi : Int), .slice no1 n nc1, .slice bo1 n bc1, .int .i64 (mm : Int)] 28) = W2 at HBx ⊢
  obtain ⟨hk2, hb2, hs2, c0, c1, c2, c3, c4⟩ := HBx.out W2 (Below.refl _ _)
  have hla := hk2.lasso
  have HFv : Hid (fairC g = 11 → fairV g = 0) := fair_val
  clear hb1 hk2 HG hA
  go_upto_region 3 with (go_at_call 13; refine hla.mono ?_; rintro e w3 ⟨v3, cc, rfl, hb3, HLV⟩; rcases HLV.out with ⟨hcc, hC, hv3⟩ | ⟨hcc, hC, so3, sc3, lo3, lc3, st, lp, hv3, hst, hlp, hLO, hN1, hN2⟩ <;> subst hcc hv3)
  · have hb4 : Below W2.heap.size W2 (w3.alloc (.cells #[.slice none 0 0, .slice none 0 0] 39)) := hb3.alloc hb3.size _
    have e1 : (w3.alloc (.cells #[.slice none 0 0, .slice none 0 0] 39)).cell? ⟨w3.heap.size, 1, none⟩ = some (.slice none 0 0) := by simp [go_sem]
    have hs4 : w3.heap.size < (w3.alloc (.cells #[.slice none 0 0, .slice none 0 0] 39)).heap.size := by simp
    generalize w3.alloc (.cells #[.slice none 0 0, .slice none 0 0] 39) = W4 at hb4 e1 hs4 ⊢
    obtain ⟨hk4, hb14, _, d0, d1, d2, d3, d4⟩ := HBx.out W4 hb4
    have hfa := hk4.fair
    rw [hC, HFv.out hC] at hfa
    clear hC HLV hla c0 c1 c2 c3 c4
    go_wp2_with (go_at_call 14; refine hfa.mono ?_; rintro e w5 ⟨rfl, hb5⟩; have e15 := (hb5.cell (p := ⟨w3.heap.size, 1, none⟩) hs4).trans e1)
    go_ret
    exact ⟨by first | rfl | simp, hw1.trans ((hb14.trans (hb5.mono hb14.size)).mono hw1.size)⟩
  · obtain ⟨sl, hsl⟩ : ∃ sl, sl = st.length := ⟨_, rfl⟩
    obtain ⟨ll, hll⟩ : ∃ ll, ll = lp.length := ⟨_, rfl⟩
    have HSL : Hid (sl = st.length) := hsl
    have HLL : Hid (ll = lp.length) := hll
    rw [← hsl] at hN1 hst ⊢
    rw [← hll] at hN2 hlp ⊢
    have HLO : Hid (LassoOk g st lp) := hLO
    have HN1 : Hid (NatsV w3 (.slice so3 sl sc3) st) := hN1
    have HN2 : Hid (NatsV w3 (.slice lo3 ll lc3) lp) := hN2
    have hlpos : 0 < ll := by
      rw [hll]
      have := hLO.ne
      cases lp with
      | nil => exact absurd rfl this
      | cons a l => simp
    obtain ⟨lb, loff, rfl, hlb, hcl0⟩ : ∃ b off, lo3 = some ⟨b, off, none⟩ ∧ b < w3.heap.size ∧ ∀ i, i < lp.length → w3.cell? ⟨b, off + i, none⟩ = some (.int .i64 (lp.getD i 0 : Int)) := by
      obtain ⟨ao, cap, e, h⟩ := hN2
      injection e with e1 e2 e3
      obtain ⟨b, off, h1, h2, h3⟩ := h hLO.ne
      exact ⟨b, off, e1.trans h1, h2, h3⟩
    clear hsl hll
    have hb4 : Below W2.heap.size W2 (w3.alloc (.cells #[.slice so3 sl sc3, .slice (some ⟨lb, loff, none⟩) ll lc3] 39)) := hb3.alloc hb3.size _
    have hb34 : Below w3.heap.size w3 (w3.alloc (.cells #[.slice so3 sl sc3, .slice (some ⟨lb, loff, none⟩) ll lc3] 39)) := (Below.refl _ _).alloc (Nat.le_refl _) _
    have e0 : (w3.alloc (.cells #[.slice so3 sl sc3, .slice (some ⟨lb, loff, none⟩) ll lc3] 39)).cell? ⟨w3.heap.size, 0, none⟩ = some (.slice so3 sl sc3) := by simp [go_sem]
    have e1 : (w3.alloc (.cells #[.slice so3 sl sc3, .slice (some ⟨lb, loff, none⟩) ll lc3] 39)).cell? ⟨w3.heap.size, 1, none⟩ = some (.slice (some ⟨lb, loff, none⟩) ll lc3) := by simp [go_sem]
    have hs4 : w3.heap.size < (w3.alloc (.cells #[.slice so3 sl sc3, .slice (some ⟨lb, loff, none⟩) ll lc3] 39)).heap.size := by simp
    generalize w3.alloc (.cells #[.slice so3 sl sc3, .slice (some ⟨lb, loff, none⟩) ll lc3] 39) = W4 at hb4 hb34 e0 e1 hs4 ⊢
    obtain ⟨hk4, hb14, _, d0, d1, d2, d3, d4⟩ := HBx.out W4 hb4
    have hfa := hk4.fair
    rw [hC] at hfa
    clear hC HLV hla c0 c1 c2 c3 c4 hLO hN1 hN2
    go_upto_region 6 with (go_at_call 14; refine hfa.mono ?_; rintro e w5 ⟨rfl, hb5⟩)
    have hb25 : Below W2.heap.size W2 w5 := hb4.trans (hb5.mono hb4.size)
    have hb35 : Below w3.heap.size w3 w5 := hb34.trans (hb5.mono hb34.size)
    have HB5 : Hid (Below W2.heap.size W2 w5 ∧ Below w3.heap.size w3 w5) := ⟨hb25, hb35⟩
    have hS : ∀ w', Below w5.heap.size w5 w' → w'.cell? ⟨w3.heap.size, 0, none⟩ = some (.slice so3 sl sc3) ∧ w'.cell? ⟨w3.heap.size, 1, none⟩ = some (.slice (some ⟨lb, loff, none⟩) ll lc3) := fun w' hb => by
      have h9 := hb5.trans (hb.mono hb5.size)
      exact ⟨(h9.cell (p := ⟨w3.heap.size, 0, none⟩) hs4).trans e0, (h9.cell (p := ⟨w3.heap.size, 1, none⟩) hs4).trans e1⟩
    have HS : Hid (∀ w', Below w5.heap.size w5 w' → w'.cell? ⟨w3.heap.size, 0, none⟩ = some (.slice so3 sl sc3) ∧ w'.cell? ⟨w3.heap.size, 1, none⟩ = some (.slice (some ⟨lb, loff, none⟩) ll lc3)) := hS
    have hlpn := nats_news hlb hcl0
    go_cut [8] (fun s8 wx => ∃ (ab ac : Nat), s8 = .slice (some ⟨ab, 0, none⟩) (sl + ll) ac ∧ Hid (wx.ownsRow w5.heap.size 3 1 (.slice (some ⟨ab, 0, none⟩) (sl + ll) ac) (sl + ll) (nvals (st ++ lp))) ∧ Hid (Below w5.heap.size w5 wx))
    case first =>
      have h63 : 0 + sl ≤ maxLen := by unfold maxLen; omega
      have hkb : (0 + sl) * 8 ≤ 140737488355328 := by omega
      have h632 : sl + ll ≤ maxLen := by unfold maxLen; omega
      have hkb2 : (sl + ll) * 8 ≤ 140737488355328 := by omega
      by_cases hs0 : sl = 0
      · subst hs0
        have hst0 : st = [] := by have := HSL.out; cases st with | nil => rfl | cons a l => simp at this
        have tk1 := True.intro
        have tk2 := True.intro
        go_region_held3 (fun w' => w'.cell? ⟨w3.heap.size, 0, none⟩ = some (.slice so3 0 sc3) ∧ w'.cell? ⟨w3.heap.size, 1, none⟩ = some (.slice (some ⟨lb, loff, none⟩) ll lc3))
          (exact hS _ (by first | exact (Below.refl _ _).drew | exact Below.refl _ _ | exact hb7))
          (first | (clear tk1; refine step_app0 (by rfl) (.tmp 49) 23 (by rfl) 3 i0 Try.underlying23 hi0 so3 sc3 (by rfl) ?_) | (clear tk2; refine step_append_lies _ (by rfl) (.tmp 50) (.tmp 52) 23 (by rfl) w5.heap.size 3 i0 _ 1 8 Try.underlying23 hi0 hz0 hz1 hz2 (by rfl) (by decide) (.slice none 0 0) 0 [] (by rfl) (World.ownsRow_nil _ _ _ _) ⟨lb, loff, none⟩ ll lc3 (nvals lp) (by rfl) (by rw [nvals_len, ← HLL.out]) (hlpn _ (by first | exact HB5.out.2.drew | exact HB5.out.2)) (nvals_one _) hlpos (by omega) (by omega) (Nat.le_refl _) _ rfl ?_; intro g7 c7 w7 ho7 hg7 _ _; have hb7 : Below w5.heap.size w5 w7 := Below.grown (by first | exact (Below.refl _ _).drew | exact Below.refl _ _) hg7 (Nat.le_refl _) (fun k hk => by cases hk); rw [List.nil_append] at ho7))
        all_goals go_wp2_with fail
        all_goals go_meet
        all_goals exact ⟨g7, c7, by rw [Nat.zero_add], by rw [hst0]; exact ho7, hb7⟩
      · obtain ⟨sb, soff, rfl, hsb, hcs0⟩ : ∃ b off, so3 = some ⟨b, off, none⟩ ∧ b < w3.heap.size ∧ ∀ i, i < st.length → w3.cell? ⟨b, off + i, none⟩ = some (.int .i64 (st.getD i 0 : Int)) := by
          obtain ⟨ao, cap, e, h⟩ := HN1.out
          injection e with e1 e2 e3
          obtain ⟨b, off, h1, h2, h3⟩ := h (fun e => hs0 (by rw [HSL.out, e]; rfl))
          exact ⟨b, off, e1.trans h1, h2, h3⟩
        have hspn := nats_news hsb hcs0
        have hspos : 0 < sl := by omega
        have tk1 := True.intro
        have tk2 := True.intro
        go_region_held3 (fun w' => w'.cell? ⟨w3.heap.size, 0, none⟩ = some (.slice (some ⟨sb, soff, none⟩) sl sc3) ∧ w'.cell? ⟨w3.heap.size, 1, none⟩ = some (.slice (some ⟨lb, loff, none⟩) ll lc3))
          (exact hS _ (by first | exact (Below.refl _ _).drew | exact Below.refl _ _ | exact hb7 | exact hbA))
          (first | (clear tk1; refine step_append_lies _ (by rfl) (.const (.slice none 0 0)) (.tmp 49) 23 (by rfl) w5.heap.size 3 i0 _ 1 8 Try.underlying23 hi0 hz0 hz1 hz2 (by rfl) (by decide) (.slice none 0 0) 0 [] (by rfl) (World.ownsRow_nil _ _ _ _) ⟨sb, soff, none⟩ sl sc3 (nvals st) (by rfl) (by rw [nvals_len, ← HSL.out]) (hspn _ (by first | exact HB5.out.2.drew | exact HB5.out.2)) (nvals_one _) hspos (by omega) (by omega) (Nat.le_refl _) _ rfl ?_; intro gA cA wA hoA hgA _ _; have hbA : Below w5.heap.size w5 wA := Below.grown (by first | exact (Below.refl _ _).drew | exact Below.refl _ _) hgA (Nat.le_refl _) (fun k hk => by cases hk); rw [Nat.zero_add, List.nil_append] at hoA; have hwA := hbA.size) | (clear tk2; refine step_append_lies _ (by rfl) (.tmp 50) (.tmp 52) 23 (by rfl) w5.heap.size 3 i0 _ 1 8 Try.underlying23 hi0 hz0 hz1 hz2 (by rfl) (by decide) (.slice (some ⟨gA, 0, none⟩) sl cA) sl (nvals st) (by first | rfl | (show Value.slice (some ⟨gA, 0, none⟩) (0 + sl) cA = _; rw [Nat.zero_add])) hoA ⟨lb, loff, none⟩ ll lc3 (nvals lp) (by rfl) (by rw [nvals_len, ← HLL.out]) (hlpn _ (HB5.out.2.trans (hbA.mono HB5.out.2.size))) (nvals_one _) hlpos h632 hkb2 hwA _ rfl ?_; intro g7 c7 w7 ho7 hg7 _ _; have hb7 : Below w5.heap.size w5 w7 := Below.grown hbA hg7 hwA (fun z hz => (hoA.lt z hz).1)))
        all_goals go_wp2_with fail
        all_goals go_meet
        all_goals exact ⟨g7, c7, rfl, by show World.ownsRow _ _ _ _ _ _ _; rw [nvals, List.map_append]; exact ho7, hb7⟩
    case rest =>
      obtain ⟨ab, ac, rfl, HO, HBc⟩ := hcut
      generalize hwx : wc = wx at *
      clear hwx hS hlpn
      obtain ⟨hgs, hok, hgi, hgm⟩ := HGk.out
      have hlenA : (st ++ lp).length = sl + ll := by rw [List.length_append, ← HSL.out, ← HLL.out]
      obtain ⟨N, hN⟩ : ∃ N, N = sl + ll := ⟨_, rfl⟩
      have HNe : Hid (N = sl + ll) := hN
      have hab := HO.out.lt ab rfl
      obtain ⟨_, _, hcA⟩ := owns_cells (l := st ++ lp) (by rw [hlenA]; exact HO.out)
      have HA : Hid (∀ w', Below wx.heap.size wx w' → (∀ k, k < N → w'.cell? ⟨ab, k, none⟩ = some (.int .i64 ((st ++ lp).getD k 0 : Int))) ∧ (KGot w' so1 sc1 no1 nc1 bo1 bc1 n gi mm g ∧ w'.cell? ⟨w1.heap.size, 0, none⟩ = some (.slice so1 n sc1) ∧ w'.cell? ⟨w1.heap.size, 1, none⟩ = some (.int .i64 (gi : Int)) ∧ w'.cell? ⟨w1.heap.size, 2, none⟩ = some (.slice no1 n nc1) ∧ w'.cell? ⟨w1.heap.size, 3, none⟩ = some (.slice bo1 n bc1) ∧ w'.cell? ⟨w1.heap.size, 4, none⟩ = some (.int .i64 (mm : Int))) ∧ (w'.cell? ⟨w3.heap.size, 0, none⟩ = some (.slice so3 sl sc3) ∧ w'.cell? ⟨w3.heap.size, 1, none⟩ = some (.slice (some ⟨lb, loff, none⟩) ll lc3)) ∧ w'.cell? ⟨lb, loff + 0, none⟩ = some (.int .i64 (lp.getD 0 0 : Int)) ∧ Below w.heap.size w w') := fun w' hb => by
        have h5 : Below w5.heap.size w5 w' := HBc.out.trans (hb.mono HBc.out.size)
        have h2 : Below W2.heap.size W2 w' := HB5.out.1.trans (h5.mono HB5.out.1.size)
        have h3 : Below w3.heap.size w3 w' := HB5.out.2.trans (h5.mono HB5.out.2.size)
        obtain ⟨q1, q2, _, q4, q5, q6, q7, q8⟩ := HBx.out w' h2
        exact ⟨fun k hk => (hb.cell (p := ⟨ab, k, none⟩) hab.2).trans (hcA k (by rw [hlenA]; omega)), ⟨q1, q4, q5, q6, q7, q8⟩, HS.out w' h5, (h3.cell (p := ⟨lb, loff + 0, none⟩) hlb).trans (hcl0 0 (by rw [← HLL.out]; exact hlpos)), hw1.trans (q2.mono hw1.size)⟩
      have HHead : Hid (((st ++ lp).getD 0 0 : Int) < (gi : Int)) := by have := HLO.out.head; rw [hgi] at this; exact this
      have HLt : Hid (∀ k, k < N → (st ++ lp).getD k 0 < n) := fun k hk => by
        rw [← hgs]
        refine HLO.out.lt _ ?_
        rw [List.getD_eq_getElem?_getD, List.getElem?_eq_getElem (by omega)]
        exact List.getElem_mem _
      have HStep : Hid (∀ k, k < N → (if k + 1 < N then (st ++ lp).getD (k + 1) 0 else lp.getD 0 0) ∈ nxt g ((st ++ lp).getD k 0)) := fun k hk => by
        have h := Trail.at (k := k) HLO.out.trail (by rw [List.length_append, hlenA]; simp; omega)
        have e1 : (st ++ lp ++ [lp.getD 0 0]).getD k 0 = (st ++ lp).getD k 0 := getD_snoc_old _ _ _ (by omega)
        rw [e1] at h
        by_cases hk1 : k + 1 < N
        · rw [if_pos hk1]
          rw [getD_snoc_old _ _ _ (by omega)] at h
          exact h
        · rw [if_neg hk1]
          have e2 : k + 1 = (st ++ lp).length := by omega
          rw [e2, getD_snoc_new] at h
          exact h
      have HSet : Hid (∀ w', Below wx.heap.size wx w' → ∀ k, k < n → ∃ b off, bo1 = some ⟨b, off, none⟩ ∧ w'.cell? ⟨b, off + k, none⟩ = some (.int .i64 (sN g k : Int))) := fun w' hb k hk => by
        obtain ⟨q1, _⟩ := (HA.out w' hb).2.1
        obtain ⟨b, off, e, _, hc⟩ := q1.v.sets.num (i := k) (by rw [hok.head.sets, hgs]; exact hk)
        exact ⟨b, off, e, by rw [hc, (hok.sN (x := k) (by omega)).1]⟩
      have hm64 : 2 ^ mN g ≤ 64 := pow64 hok.mN.1
      have HML : Hid (∀ q, orL (sN g) 0 (lp.take q) < 2 ^ mN g) := fun q => orL_lt _ _ (Nat.pow_pos (by decide)) (fun y hy => (hok.sN (HLO.out.lt y (List.mem_append.2 (.inr (List.mem_of_mem_take hy))))).2)
      have HOr : Hid (∀ a : Nat, a < 64 → ∀ k, k < n → bits BinOp.or IntKind.i64 (a : Int) (sN g k : Int) = ((a ||| sN g k : Nat) : Int)) := fun a ha k hk => or_nat0 _ ha _ (by have := (hok.sN (x := k) (by omega)).2; omega)
      have HMS : Hid (∀ k, k < N → sl ≤ k → orL (sN g) 0 (lp.take (k + 1 - sl)) = orL (sN g) 0 (lp.take (k - sl)) ||| sN g ((st ++ lp).getD k 0)) := fun k hk hs => by
        have e1 : k + 1 - sl = (k - sl) + 1 := by omega
        have e3 : k - sl < lp.length := by rw [← HLL.out]; omega
        have e2 : (st ++ lp).getD k 0 = lp[k - sl] := by
          have h2 : (st ++ lp)[k]? = lp[k - sl]? := by rw [HSL.out]; exact List.getElem?_append_right (by rw [← HSL.out]; exact hs)
          rw [List.getD_eq_getElem?_getD, h2, List.getElem?_eq_getElem e3]; rfl
        rw [e1, List.take_succ_eq_append_getElem e3, orL_snoc, e2]
      have HFin : Hid (orL (sN g) 0 (lp.take (N - sl)) = 2 ^ mN g - 1) := by
        have e : lp.take (N - sl) = lp := List.take_of_length_le (by rw [← HLL.out]; omega)
        show _ = _
        rw [e]
        refine (full_bits (by have := HML.out lp.length; rw [List.take_length] at this; exact this)).2 fun i hi => ?_
        obtain ⟨y, hy, hb⟩ := HLO.out.bits i hi
        exact (orL_bit lp 0).2 (.inr ⟨y, hy, hb⟩)
      have hmN : mN g = mm := by unfold mN; omega
      have hmm6 : mm ≤ 6 := by have := hok.mN.1; omega
      rw [hmN] at HFin
      obtain ⟨qA, ⟨_, a0, a1, a2, a3, a4⟩, ⟨b0, b1⟩, _, hbw⟩ := HA.out wx (Below.refl _ _)
      have hN0 : 0 < N := by omega
      have z0 := qA 0 hN0
      have hz64 := HHead.out
      have HX0 : Hid ((st ++ lp).getD 0 0 = (st ++ lp).getD 0 0) := rfl
      have hN2 : N ≤ 2020000 := by omega
      rw [← hN]
      clear HB5 HS hcA hlenA hok hgs hgi hgm hN qA HBx HBc HO hab
      generalize hx0 : (st ++ lp).getD 0 0 = x0 at z0 hz64
      clear hx0
      have t0 : decide ((x0 : Int) < 0) = false := decide_eq_false (by omega)
      have t1 : decide ((gi : Int) ≤ (x0 : Int)) = false := decide_eq_false (by omega)
      have t2 : decide ((ll : Int) = 0) = false := decide_eq_false (by omega)
      have t3 : ¬ (ll : Int) = 0 := by omega
      have t4 : (0 : Int) < (N : Int) := by omega
      have t5 : ((ll : Int) == 0) = false := by simp; omega
      go_wp2_with fail
      go_quiet (fail)
      go_wp2_with fail
      have HB0 : Hid (Below wx.heap.size wx (wx.drewN nq)) := below_drewN (Below.refl _ _) _
      clear a0 a1 a2 a3 a4 b0 b1 z0 t0 t1 t2 t3 t4 t5 hz64 hbw
      generalize wx.drewN nq = wy at HB0 ⊢
      generalize Value.bool (decide (gi ≤ x0)) = vdec
      go_loopw [9, 10] (fun m i wr => ∃ k : Nat, k ≤ N ∧ i = .int .i64 k ∧ m = .int .i64 (orL (sN g) 0 (lp.take (k - sl)) : Int) ∧ Hid (Below wx.heap.size wx wr)) (fun _ i _ => N - (intOf i).toNat)
      case atStart => exact ⟨0, Nat.zero_le _, rfl, by rw [Nat.zero_sub]; rfl, HB0⟩
      case round =>
        obtain ⟨k, hk, rfl, rfl, HBk⟩ := hrel
        obtain ⟨qA, ⟨hkg, a0, a1, a2, a3, a4⟩, ⟨b0, b1⟩, l0, hbw⟩ := HA.out wr HBk.out
        by_cases hlt : k < N
        · have e1 := qA k hlt
          have hxn := HLt.out k hlt
          have hstep := HStep.out k hlt
          obtain ⟨x, hx⟩ : ∃ x, x = (st ++ lp).getD k 0 := ⟨_, rfl⟩
          have HX : Hid (x = (st ++ lp).getD k 0) := hx
          rw [← hx] at e1 hxn hstep
          simp only [Nat.add_zero] at l0
          by_cases hk1 : k + 1 < N
          · have e2 := qA (k + 1) hk1
            rw [if_pos hk1] at hstep
            have hle := (hkg.later ((Below.refl _ _).drew)).leads hxn hstep
            generalize (st ++ lp).getD (k + 1) 0 = y at e2 hstep hle
            have hk1' : (k : Int) + 1 < (N : Int) := by omega
            clear qA hx
            have hS : ∀ w', Below wr.heap.size wr w' → w'.cell? ⟨w1.heap.size, 0, none⟩ = some (.slice so1 n sc1) ∧ w'.cell? ⟨w1.heap.size, 1, none⟩ = some (.int .i64 (gi : Int)) ∧ w'.cell? ⟨w1.heap.size, 2, none⟩ = some (.slice no1 n nc1) ∧ w'.cell? ⟨w1.heap.size, 3, none⟩ = some (.slice bo1 n bc1) ∧ w'.cell? ⟨w1.heap.size, 4, none⟩ = some (.int .i64 (mm : Int)) ∧ w'.cell? ⟨ab, k, none⟩ = some (.int .i64 (x : Int)) := fun w' hb => by
              obtain ⟨q1, ⟨_, p0, p1, p2, p3, p4⟩, _⟩ := HA.out w' (HBk.out.trans (hb.mono HBk.out.size))
              exact ⟨p0, p1, p2, p3, p4, by rw [HX.out]; exact q1 k hlt⟩
            clear hkg
            go_upto_region 16 with fail
            go_region_held3 (fun w' => w'.cell? ⟨w1.heap.size, 0, none⟩ = some (.slice so1 n sc1) ∧ w'.cell? ⟨w1.heap.size, 1, none⟩ = some (.int .i64 (gi : Int)) ∧ w'.cell? ⟨w1.heap.size, 2, none⟩ = some (.slice no1 n nc1) ∧ w'.cell? ⟨w1.heap.size, 3, none⟩ = some (.slice bo1 n bc1) ∧ w'.cell? ⟨w1.heap.size, 4, none⟩ = some (.int .i64 (mm : Int)) ∧ w'.cell? ⟨ab, k, none⟩ = some (.int .i64 (x : Int))) (exact hS _ (by first | exact (Below.refl _ _).drew | exact Below.refl _ _ | exact undrewB hb7)) ((go_at_call 15; refine hle.mono ?_; rintro e w7 ⟨rfl, hb7⟩))
            have hb7' := undrewB hb7
            have hbx7 : Below wx.heap.size wx w7 := HBk.out.trans (hb7'.mono HBk.out.size)
            obtain ⟨rA, ⟨_, p0, p1, p2, p3, p4⟩, ⟨s0, s1⟩, _⟩ := HA.out w7 hbx7
            have r1 := rA k hlt
            rw [← HX.out] at r1
            obtain ⟨sb, soff, rfl, e9⟩ := HSet.out w7 hbx7 x hxn
            have HB7d : Hid (Below wx.heap.size wx w7.drew) := hbx7.drew
            have HB70 : Hid (Below wx.heap.size wx w7) := hbx7
            clear a0 a1 a2 a3 a4 b0 b1 l0 e1 hle hb7 hS rA hbx7 hb7' hstep hbw
            by_cases hsk : sl ≤ k
            · have hsk2 : (sl : Int) ≤ (k : Int) := by omega
              have hor := HOr.out (orL (sN g) 0 (lp.take (k - sl))) (by have := HML.out (k - sl); omega) x hxn
              rw [HX.out, ← HMS.out k hlt hsk, ← HX.out] at hor
              have HOe : Hid _ := hor
              clear hor
              generalize orL (sN g) 0 (lp.take (k - sl)) = mq at *
              generalize sN g x = sx at *
              go_wp2_with fail
              go_region
              go_wp2_with fail
              go_roundw
              case rel => exact ⟨k + 1, hlt, by go_num, by rw [HOe.out], HB7d⟩
              case measure => simp [intOf]; omega
            · have hsk2 : ¬ (sl : Int) ≤ (k : Int) := by omega
              have HOe : Hid (orL (sN g) 0 (lp.take (k + 1 - sl)) = orL (sN g) 0 (lp.take (k - sl))) := by
                show _ = _
                rw [show k + 1 - sl = 0 by omega, show k - sl = 0 by omega]
              generalize orL (sN g) 0 (lp.take (k - sl)) = mq at *
              go_wp2_with fail
              go_roundw
              case rel => exact ⟨k + 1, hlt, by go_num, by rw [HOe.out], HB70⟩
              case measure => simp [intOf]; omega
          · rw [if_neg hk1] at hstep
            have hle := (hkg.later ((Below.refl _ _).drew)).leads hxn hstep
            generalize lp.getD 0 0 = y at l0 hstep hle
            have hk1' : ¬ (k : Int) + 1 < (N : Int) := by omega
            clear qA hx
            have hS : ∀ w', Below wr.heap.size wr w' → w'.cell? ⟨w1.heap.size, 0, none⟩ = some (.slice so1 n sc1) ∧ w'.cell? ⟨w1.heap.size, 1, none⟩ = some (.int .i64 (gi : Int)) ∧ w'.cell? ⟨w1.heap.size, 2, none⟩ = some (.slice no1 n nc1) ∧ w'.cell? ⟨w1.heap.size, 3, none⟩ = some (.slice bo1 n bc1) ∧ w'.cell? ⟨w1.heap.size, 4, none⟩ = some (.int .i64 (mm : Int)) ∧ w'.cell? ⟨ab, k, none⟩ = some (.int .i64 (x : Int)) := fun w' hb => by
              obtain ⟨q1, ⟨_, p0, p1, p2, p3, p4⟩, _⟩ := HA.out w' (HBk.out.trans (hb.mono HBk.out.size))
              exact ⟨p0, p1, p2, p3, p4, by rw [HX.out]; exact q1 k hlt⟩
            clear hkg
            go_upto_region 16 with fail
            go_region_held3 (fun w' => w'.cell? ⟨w1.heap.size, 0, none⟩ = some (.slice so1 n sc1) ∧ w'.cell? ⟨w1.heap.size, 1, none⟩ = some (.int .i64 (gi : Int)) ∧ w'.cell? ⟨w1.heap.size, 2, none⟩ = some (.slice no1 n nc1) ∧ w'.cell? ⟨w1.heap.size, 3, none⟩ = some (.slice bo1 n bc1) ∧ w'.cell? ⟨w1.heap.size, 4, none⟩ = some (.int .i64 (mm : Int)) ∧ w'.cell? ⟨ab, k, none⟩ = some (.int .i64 (x : Int))) (exact hS _ (by first | exact (Below.refl _ _).drew | exact Below.refl _ _ | exact undrewB hb7)) ((go_at_call 15; refine hle.mono ?_; rintro e w7 ⟨rfl, hb7⟩))
            have hb7' := undrewB hb7
            have hbx7 : Below wx.heap.size wx w7 := HBk.out.trans (hb7'.mono HBk.out.size)
            obtain ⟨rA, ⟨_, p0, p1, p2, p3, p4⟩, ⟨s0, s1⟩, _⟩ := HA.out w7 hbx7
            have r1 := rA k hlt
            rw [← HX.out] at r1
            obtain ⟨sb, soff, rfl, e9⟩ := HSet.out w7 hbx7 x hxn
            have HB7d : Hid (Below wx.heap.size wx w7.drew) := hbx7.drew
            have HB70 : Hid (Below wx.heap.size wx w7) := hbx7
            clear a0 a1 a2 a3 a4 b0 b1 l0 e1 hle hb7 hS rA hbx7 hb7' hstep hbw
            by_cases hsk : sl ≤ k
            · have hsk2 : (sl : Int) ≤ (k : Int) := by omega
              have hor := HOr.out (orL (sN g) 0 (lp.take (k - sl))) (by have := HML.out (k - sl); omega) x hxn
              rw [HX.out, ← HMS.out k hlt hsk, ← HX.out] at hor
              have HOe : Hid _ := hor
              clear hor
              generalize orL (sN g) 0 (lp.take (k - sl)) = mq at *
              generalize sN g x = sx at *
              go_wp2_with fail
              go_region
              go_wp2_with fail
              go_roundw
              case rel => exact ⟨k + 1, hlt, by go_num, by rw [HOe.out], HB7d⟩
              case measure => simp [intOf]; omega
            · have hsk2 : ¬ (sl : Int) ≤ (k : Int) := by omega
              have HOe : Hid (orL (sN g) 0 (lp.take (k + 1 - sl)) = orL (sN g) 0 (lp.take (k - sl))) := by
                show _ = _
                rw [show k + 1 - sl = 0 by omega, show k - sl = 0 by omega]
              generalize orL (sN g) 0 (lp.take (k - sl)) = mq at *
              go_wp2_with fail
              go_roundw
              case rel => exact ⟨k + 1, hlt, by go_num, by rw [HOe.out], HB70⟩
              case measure => simp [intOf]; omega
        · obtain rfl : k = N := by omega
          rw [HFin.out]
          have h7 : mm = 0 ∨ mm = 1 ∨ mm = 2 ∨ mm = 3 ∨ mm = 4 ∨ mm = 5 ∨ mm = 6 := by omega
          clear qA hkg
          rcases h7 with rfl | rfl | rfl | rfl | rfl | rfl | rfl
          all_goals
            go_wp2_with fail
            go_ret
            exact ⟨by first | rfl | simp, hbw⟩
end Go.Proofs.Ytalpodgndfnjcaa
