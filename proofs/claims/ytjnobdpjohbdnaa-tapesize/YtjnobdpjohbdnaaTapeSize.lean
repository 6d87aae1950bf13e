/-
  Proved: foretellkeep.TapeSize answers true at every list of numbers and every number (a record has eight bytes, and four for each number; nothing that may not be is written). No condition.
-/
import Derived.Test.YtjnobdpjohbdnaaTMem
import Derived.Test.YtjnobdpjohbdnaaTPre
namespace Go.Proofs.Ytjnobdpjohbdnaa
open Go.ChangeShapes Go.WideShapes Go.ChangeAt Go.RowKit Go.Deep

theorem wpList_copy {P : Program} {w : World} {ops : Array Oper} {rest : List Oper} {o : Oper} {a : Act} {Q : Exit → Act → World → Prop} (hgd : o.guard = none) (s x : Operand) (t : TypeId)
    (ho : o.op = .call { callee := .builtin .append, args := #[s, x], argTypes := #[t, t] })
    (base : Nat) (e : TypeId) (i : TypeInfo) (z : Value) (size bytes : Nat) (ht : P.underlying t = some (.slice e)) (hi : P.info? e = some i) (hz : i.zero = some z)
    (hsize : i.size = size) (hby : i.bytes = bytes) (hzs : z.cells.size = size) (hsz : 0 < size) (hs : a.eval s = .slice none 0 0)
    (ao : Option Addr) (m c : Nat) (news : List Value) (hx : a.eval x = .slice ao m c) (hno : ao = none → c = 0 ∧ m = 0) (hl : news.length = m * size) (hnews : ∀ ad, ao = some ad → ∀ j u, news[j]? = some u → w.cell? (ad.add j) = some u) (h1 : ∀ u ∈ news, u.oneCell' = true)
    (h63 : m ≤ maxLen) (hbytes : m * bytes ≤ 140737488355328) (hbase : base ≤ w.heap.size)
    (h : ∀ v' w', w'.ownsRow base e size v' m news → w.grownBy w' none → wpList P ops Q rest (a.put o.dst v') w') : wpList P ops Q (o :: rest) a w := by
  refine wpList_plain hgd fun K hK => ?_
  cases ao with
  | none =>
    obtain ⟨rfl, rfl⟩ := hno rfl
    have : news = [] := List.length_eq_zero_iff.1 (by simpa using hl)
    subst this
    have hrun := run_append_owned_none (P := P) (w := w) base t o.type e i size ht hi (.slice none 0 0) 0 [] (World.ownsRow_nil _ _ _ _)
    unfold Oper.wp
    simp [execOp, ho, resolve, invoke, builtin, hs, hx, hrun, Result.andThen]
    exact hK _ _ (h _ _ (World.ownsRow_nil _ _ _ _) (World.grownBy.refl _ _))
  | some ad =>
    exact wp_append_own w s x t ho base e i z size bytes ht hi hz hsize hby hzs hsz _ _ _ hs (World.ownsRow_nil _ _ _ _) ad m c news hx hl (hnews ad rfl) h1 (by omega) (by simpa using hbytes) hbase (fun v' w' h2 h3 _ => hK _ _ (h v' w' (by simpa using h2) h3))
theorem below_of_grown {w w' : World} (h : w.grownBy w' none) : Below w.heap.size w w' := ⟨h.os, h.tape, h.output, h.size, fun k hk => h.block k hk (by intro e; cases e)⟩
theorem owns_cells {w : World} {base n c : Nat} {a : Option Addr} {e : TypeId} {xs : List Value} (h : w.ownsRow base e 1 (.slice a n c) n xs) : ∀ ad, a = some ad → ∀ j u, xs[j]? = some u → w.cell? (ad.add j) = some u := by
  intro ad e1 j u hj
  rcases h.2 with ⟨e2, _⟩ | ⟨g, cap, cur, e2, _⟩
  · injection e2 with e3 _ _; rw [e1] at e3; cases e3
  · injection e2 with e3 _ _
    rw [e1] at e3
    obtain rfl := Option.some.inj e3
    exact h.cells (g := g) (by rw [e1]; rfl) j u hj
theorem ivals_app (l m : List Int) : ivals (l ++ m) = ivals l ++ ivals m := by simp [ivals]
theorem any_app (l : List Int) (x : Int) (hx : outB x = true) : (l ++ [x]).any outB = true := by simp [hx]
theorem zeros_v (w1 : World) (n : Nat) : IntsV (w1.alloc (.cells (madeCells #[.int .i64 0] n) 3)) (.slice (some ⟨w1.heap.size, 0, none⟩) n n) (List.replicate n 0) := by
  have hrow := World.rowIs_made w1 (.int .i64 0) n 3
  refine ⟨_, n, by rw [List.length_replicate], fun _ => ⟨w1.heap.size, 0, rfl, hrow.lt, fun i hi => ?_⟩⟩
  rw [List.length_replicate] at hi
  rw [Nat.zero_add, hrow.cell hi]
  simp [List.getD_eq_getElem?_getD, hi]
theorem bytes3 (w : World) : BytesV (w.alloc (.cells #[.int .u8 1, .int .u8 2, .int .u8 3] 5)) (.slice (some ⟨w.heap.size, 0, none⟩) 3 3) [1, 2, 3] := by
  refine ⟨_, 3, rfl, ⟨by decide, fun h => by simp at h⟩, fun _ => ⟨w.heap.size, 0, rfl, by simp, fun i hi => ?_⟩⟩
  match i, hi with
  | 0, _ => simp [go_sem]
  | 1, _ => simp [go_sem]
  | 2, _ => simp [go_sem]

set_option maxHeartbeats 3200000 in
set_option maxRecDepth 20000 in
theorem tapeSize_walk (v : Value) (l : List Int) (x : Int) (w : World) (hx : I64 x) (hV : IntsR w v l) :
    Calls Try.prog 8 #[v, .int .i64 x] w fun e w' => e = .returned (.bool true) ∧ Below w.heap.size w w' := by
  obtain ⟨ao, cap, rfl⟩ : ∃ ao cap, v = .slice ao l.length cap := by obtain ⟨a, c, h, _⟩ := hV.v; exact ⟨a, c, h⟩
  have hre := record_any _ l w hV
  obtain ⟨hr1, hr2, hr3⟩ := recN_ok l
  generalize recN l = r at *
  obtain ⟨i0, hi, hz0, hz1, hz2⟩ := info_parts infoInt
  have hpr := pk_range (n := x) (m := 4) (by decide)
  have hpk := fun w1 => picked_is x 4 w1 hx (by decide) (by decide)
  generalize pk x 4 = s at *
  obtain ⟨hs0, hs1⟩ := hpr
  have HW1 : Hid (∀ (w1 : World) (v : Value), IntsV w1 v r → Calls Try.prog 17 #[.agg #[.slice (some ⟨w1.heap.size, 0, none⟩) 3 3, .int .i64 s], v] (w1.alloc (.cells #[.int .u8 1, .int .u8 2, .int .u8 3] 5)) fun e w' => ∃ ya yc, e = .returned (.tuple #[.agg #[.slice ya (11 + 4 * r.length) yc, .int .i64 s], .int .i64 0]) ∧ Below (w1.alloc (.cells #[.int .u8 1, .int .u8 2, .int .u8 3] 5)).heap.size (w1.alloc (.cells #[.int .u8 1, .int .u8 2, .int .u8 3] 5)) w') := fun w1 v hv => by
    have := write_ok (some ⟨w1.heap.size, 0, none⟩) 3 [1, 2, 3] s v r _ (bytes3 w1) (hv.below ((Below.refl _ _).alloc (Nat.le_refl _) _)) (by simp [mayB]; omega) (by omega) hr1 (by simp; omega)
    refine this.mono fun e w' ⟨ya, yc, h1, h2, _⟩ => ?_
    have e1 : ([1, 2, 3] ++ recB r).length = 11 + 4 * r.length := by rw [List.length_append, recB_length]; simp; omega
    rw [e1] at h1
    exact ⟨ya, yc, h1, h2⟩
  have HW2 : Hid (∀ (w1 : World) (y : Int) (v : Value), outB y = true → IntsV w1 v (r ++ [y]) → Calls Try.prog 17 #[.agg #[.slice none 0 0, .int .i64 0], v] w1 fun e w' => ∃ ya yc, e = .returned (.tuple #[.agg #[.slice ya 0 yc, .int .i64 0], .int .i64 2]) ∧ Below w1.heap.size w1 w') := fun w1 y v hy hv => (write_range none 0 [] 0 v (r ++ [y]) w1 (by simp; omega) hv (by decide) (by simp; omega) (any_app r y hy)).mono fun e w' ⟨ya, yc, h1, h2, _⟩ => ⟨ya, yc, h1, h2⟩
  have HW4 : Hid (∀ (w1 : World) (g : Nat), IntsV w1 (.slice (some ⟨g, 0, none⟩) 4001 4001) (List.replicate 4001 0) → Calls Try.prog 17 #[.agg #[.slice none 0 0, .int .i64 0], .slice (some ⟨g, 0, none⟩) 4001 4001] w1 fun e w' => ∃ ya yc, e = .returned (.tuple #[.agg #[.slice ya 0 yc, .int .i64 0], .int .i64 1]) ∧ Below w1.heap.size w1 w') := fun w1 g hv => (write_size none 0 [] 0 _ (List.replicate 4001 0) w1 (by rw [List.length_replicate]; decide) hv (by decide) (by rw [List.length_replicate]; decide)).mono fun e w' ⟨ya, yc, h1, h2, _⟩ => ⟨ya, yc, h1, h2⟩
  have HW5 : Hid (∀ (w1 : World) (v : Value), IntsV w1 v r → Calls Try.prog 17 #[.agg #[.slice none 0 0, .int .i64 1], v] w1 fun e w' => ∃ ya yc, e = .returned (.tuple #[.agg #[.slice ya 0 yc, .int .i64 0], .int .i64 9]) ∧ Below w1.heap.size w1 w') := fun w1 v hv => (write_bad none 0 [] 1 v r w1 (by omega) hv (by decide)).mono fun e w' ⟨ya, yc, h1, h2, _⟩ => ⟨ya, yc, h1, h2⟩
  have HIv : Hid (∀ (w1 : World) (b : Nat) (v : Value), w1.ownsRow b 3 1 v r.length (ivals r) → IntsV w1 v r) := fun w1 b v h => intsV_of_owns h
  have HIy : Hid (∀ (w1 : World) (b : Nat) (y : Int) (v : Value), w1.ownsRow b 3 1 v (r.length + 1) (ivals r ++ [.int .i64 y]) → IntsV w1 v (r ++ [y])) := fun w1 b y v h => intsV_of_owns (by rw [ivals_app]; simpa [ivals] using h)
  have HLn : Hid ((ivals r).length = r.length * 1) := by show _ = _; simp [ivals]
  have HOne := ivals_one r
  have HMk : Hid (∀ w1 : World, IntsV (w1.alloc (.cells (madeCells #[.int .i64 0] 4001) 3)) (.slice (some ⟨w1.heap.size, 0, none⟩) 4001 4001) (List.replicate 4001 0)) := fun w1 => zeros_v w1 4001
  have hmk := run_make_row' (P := Try.prog) 37 3 (.int .i64 0) 8 Try.underlying37 infoInt rfl .i64 .i64 4001 (by decide) (by decide)
  have hmk' : ∀ w1 : World, (Instr.makeSlice 37 (.int .i64 4001) (.int .i64 4001)).run Try.prog w1 = .ok (.slice (some ⟨w1.heap.size, 0, none⟩) 4001 4001) (w1.alloc (.cells (madeCells #[.int .i64 0] 4001) 3)) := hmk
  have ho1 : outB (-1) = true := by decide
  have ho2 : outB 2147483648 = true := by decide
  clear hmk hV hr1 hr3
  generalize hrl : r.length = rl at *
  clear hrl
  obtain ⟨L, hL⟩ : ∃ L, 11 + 4 * rl = L := ⟨_, rfl⟩
  have hLi : (11 : Int) + 4 * (rl : Int) = (L : Int) := by omega
  rw [hL] at HW1
  clear hL
  have hwA : IntKind.i64.wrap (4 * (rl : Int)) = 4 * (rl : Int) := by rw [IntWalk.i64_left]; exact IntWalk.wrap64_in _ (by omega)
  have hwB : IntKind.i64.wrap (11 + 4 * (rl : Int)) = (L : Int) := by rw [hLi, IntWalk.i64_left]; exact IntWalk.wrap64_in _ (by omega)
  have tkR := True.intro
  have t1 := True.intro
  have t2 := True.intro
  have t3 := True.intro
  have t4 := True.intro
  have t5 := True.intro
  have c1 := True.intro
  have c2 := True.intro
  have d1 := True.intro
  have d2 := True.intro
  go_enter Try.func8, Try.ntmps8
  go_wp2_with (first
    | (clear tkR; go_at_call 16; refine hre.mono ?_; rintro e w1 ⟨xo, xc, rfl, hb1, HO1⟩; have hw1 := HW1.out w1 _ (HIv.out _ _ _ HO1.out); obtain ⟨_, hno⟩ := owns_room HO1.out; have hno' : xo = none → xc = 0 ∧ rl = 0 := fun h => ⟨hno h, Nat.le_zero.1 ((hno h) ▸ (owns_room HO1.out).1)⟩)
    | (go_at_call 11; refine (hpk _).mono ?_; rintro e wp ⟨rfl, HEp⟩; subst HEp)
    | (clear t1; go_at_call 17; refine hw1.mono ?_; rintro e w2 ⟨ya, yc, rfl, hb2⟩; have hB2 := ((Below.refl w1.heap.size w1).alloc (Nat.le_refl _) (.cells #[.int .u8 1, .int .u8 2, .int .u8 3] 5)).trans (hb2.mono (by simp)); obtain ⟨hbn2, hcn2⟩ := Bc.arg w2 (.slice ya L yc) (.int .i64 s) 29; have hB2n := hB2.trans (hbn2.mono hB2.size); have hO2n := owns_later HO1.out hB2n (Nat.le_refl _))
    | (clear c1; at_builtin; refine wpList_copy rfl _ _ 37 rfl _ 3 i0 (.int .i64 0) 1 8 Try.underlying37 hi hz0 hz1 hz2 rfl (by decide) rfl xo rl xc (ivals r) rfl hno' HLn.out (owns_cells hO2n) HOne (by unfold maxLen; omega) (by omega) (Nat.le_refl _) ?_; intro v3 w3 ho3 hg3; obtain ⟨a3, k3, rfl⟩ := owns_slice ho3; have hB3 := hB2n.trans ((below_of_grown hg3).mono hB2n.size); have hc3 := hcn2.later (below_of_grown hg3); have hs3 := (below_of_grown hg3).size)
    | (clear d1; at_builtin; refine wpList_append_own _ rfl _ _ 37 rfl _ 3 i0 (.int .i64 0) 1 8 Try.underlying37 hi hz0 hz1 hz2 rfl (by decide) (.slice a3 rl k3) rl (ivals r) rfl (ho3.alloc _) ⟨_, 0, none⟩ 1 1 [.int .i64 (-1)] rfl rfl (one_cell _ _ _) (by simp [Value.oneCell']) (by unfold maxLen; omega) (by omega) (Nat.le_trans hs3 (by simp)) ?_; intro v4 w4 ho4 hg4 _; have hb4 := ((below_of_grown hg3).alloc (below_of_grown hg3).size (.cells #[.int .i64 (-1)] 3)).grown hg4 (Nat.le_trans hs3 (by simp)) (fun q hq => (ho3.lt q hq).1); have hc4 := hcn2.later hb4; have hB4 := hB2n.trans (hb4.mono hB2n.size); have hw4 := HW2.out w4 (-1) v4 ho1 (HIy.out w4 _ _ v4 ho4))
    | (clear t2; go_at_call 17; refine hw4.mono ?_; rintro e w5 ⟨y5, k5, rfl, hb5⟩; obtain ⟨hbn5, _⟩ := Bc.arg w5 (.slice y5 0 k5) (.int .i64 0) 29; have hB5 := hB4.trans (hb5.mono hB4.size); have hB5n := hB5.trans (hbn5.mono hB5.size); have hcn5 := (hc4.later hb5).later hbn5; have hO5n := owns_later HO1.out hB5n (Nat.le_refl _))
    | (clear c2; at_builtin; refine wpList_copy rfl _ _ 37 rfl _ 3 i0 (.int .i64 0) 1 8 Try.underlying37 hi hz0 hz1 hz2 rfl (by decide) rfl xo rl xc (ivals r) rfl hno' HLn.out (owns_cells hO5n) HOne (by unfold maxLen; omega) (by omega) (Nat.le_refl _) ?_; intro v6 w6 ho6 hg6; obtain ⟨a6, k6, rfl⟩ := owns_slice ho6; have hs6 := (below_of_grown hg6).size)
    | (clear d2; at_builtin; refine wpList_append_own _ rfl _ _ 37 rfl _ 3 i0 (.int .i64 0) 1 8 Try.underlying37 hi hz0 hz1 hz2 rfl (by decide) (.slice a6 rl k6) rl (ivals r) rfl (ho6.alloc _) ⟨_, 0, none⟩ 1 1 [.int .i64 2147483648] rfl rfl (one_cell _ _ _) (by simp [Value.oneCell']) (by unfold maxLen; omega) (by omega) (Nat.le_trans hs6 (by simp)) ?_; intro v7 w7 ho7 hg7 _; have hb7 := ((below_of_grown hg6).alloc (below_of_grown hg6).size (.cells #[.int .i64 2147483648] 3)).grown hg7 (Nat.le_trans hs6 (by simp)) (fun q hq => (ho6.lt q hq).1); have hc7 := hcn5.later hb7; have hB7 := hB5n.trans (hb7.mono hB5n.size); have hw7 := HW2.out w7 2147483648 v7 ho2 (HIy.out w7 _ _ v7 ho7))
    | (clear t3; go_at_call 17; refine hw7.mono ?_; rintro e w8 ⟨y8, k8, rfl, hb8⟩; obtain ⟨hbn8, _⟩ := Bc.arg w8 (.slice y8 0 k8) (.int .i64 0) 29; have hB8 := hB7.trans (hb8.mono hB7.size); have hB8n := hB8.trans (hbn8.mono hB8.size); have hcn8 := (hc7.later hb8).later hbn8; have hO8n := owns_later HO1.out hB8n (Nat.le_refl _); have hbm8 := (Below.refl w8.heap.size w8).alloc (Nat.le_refl _) (.cells #[.slice y8 0 k8, .int .i64 0] 29); have hsz8 : (w8.alloc (.cells #[.slice y8 0 k8, .int .i64 0] 29)).heap.size = w8.heap.size + 1 := (by simp); have hiv8 := HMk.out (w8.alloc (.cells #[.slice y8 0 k8, .int .i64 0] 29)); rw [hsz8] at hiv8; have hw8 := HW4.out _ _ hiv8; have hbz8 := (Below.refl (w8.alloc (.cells #[.slice y8 0 k8, .int .i64 0] 29)).heap.size (w8.alloc (.cells #[.slice y8 0 k8, .int .i64 0] 29))).alloc (Nat.le_refl _) (.cells (madeCells #[.int .i64 0] 4001) 3); have hBz8 := hB8n.trans (hbz8.mono hB8n.size); have hcz8 := hcn8.later hbz8; clear hsz8 hbm8 hiv8)
    | (clear t4; go_at_call 17; refine hw8.mono ?_; rintro e w9 ⟨y9, k9, rfl, hb9⟩; obtain ⟨hbn9, _⟩ := Bc.arg w9 (.slice y9 0 k9) (.int .i64 0) 29; have hB9 := hBz8.trans (hb9.mono hBz8.size); have hB9n := hB9.trans (hbn9.mono hB9.size); have hcn9 := (hcz8.later hb9).later hbn9; have hO9n := owns_later HO1.out hB9n (Nat.le_refl _); have hw9 := HW5.out _ _ (HIv.out _ _ _ (owns_later HO1.out hB9n (Nat.le_refl _))))
    | (clear t5; go_at_call 17; refine hw9.mono ?_; rintro e w10 ⟨y10, k10, rfl, hb10⟩; obtain ⟨hbn10, _⟩ := Bc.arg w10 (.slice y10 0 k10) (.int .i64 0) 29; have hB10 := hB9n.trans (hb10.mono hB9n.size); have hB10n := hB10.trans (hbn10.mono hB10.size); have hcn10 := (hcn9.later hb10).later hbn10; obtain ⟨_, z0, z1⟩ := id hcn10))
  have hBf := hb1.trans (hB10n.mono hb1.size)
  generalize w10.alloc (.cells #[.slice y10 0 k10, .int .i64 0] 29) = wz at *
  go_quiet (first | (go_at_call 11; exact Calls.quiet_of_same (hpk _)))
  go_wp2_with fail
  go_ret
  exact ⟨by first | rfl | simp, below_drewN hBf _⟩

set_option maxRecDepth 20000 in
theorem tapeSize_contract (H : Type) (enc : TypeId × Value → H) (W : World) (base : Nat) (args : Array Value) (ds gs : List (DataW H)) (before : List MemPlace)
    (hval : ∀ (j : Nat) t v, Try.f8.params[j]? = some t → args[j]? = some v → Value.okWide Try.prog W .any base t v)
    (hW : DataW.Whole enc Try.prog Try.f8.params.toList Rows.tapeSizeSpec.vars false W args.toList ds gs before)
    (hsz0 : (DataW.weightsEach Try.prog (Try.f8.params.toList ++ (OpenSpec.ofChange Rows.tapeSizeSpec).bare.plain.varTypes Try.prog) (ds ++ gs)).all (· ≤ reachBytes) = true)
    (_hL : laidMetH Try.prog Rows.tapeSizeRow.laid W) :
    Calls Try.prog 8 args W fun e W' => ∃ v, e = .returned v ∧ Rows.tapeSizeSpec.post enc Try.prog Try.f8 false true false false W args v W' := by
  have hW' := hW
  obtain ⟨p, q, hA0, hV, rfl, hfz, hnd⟩ := hW
  have hA : DataW.TrodAll enc Try.prog W 0 (fun _ => true) true Try.f8.params.toList args.toList ds p := hA0
  rw [Try.params8] at hA hval
  obtain ⟨v0, vs0, d0, ds0, p0, q0, hargs, rfl, rfl, h0, r0⟩ := trodAll_cons hA
  obtain ⟨v1, vs1, d1, ds1, p1, q1, rfl, rfl, rfl, h1, r1⟩ := trodAll_cons r0
  obtain ⟨rfl, rfl, rfl⟩ := trodAll_nil r1
  obtain rfl : args = #[v0, v1] := by cases args; simp_all
  obtain ⟨rfl, rfl⟩ := trodVars_none hV
  have hsz : (DataW.weightsEach Try.prog [37, 3] [d0, d1]).all (· ≤ reachBytes) = true := hsz0
  obtain ⟨l, hV⟩ := open_raws (hval 0 37 v0 rfl rfl) h0 hsz (j := 0) rfl rfl
  obtain ⟨x, rfl, rfl, rfl, wf1⟩ := open_int Try.underlying3 (hval 1 3 v1 rfl rfl) h1
  refine (tapeSize_walk v0 l x W (bounds_i64 wf1) hV).mono fun e W' ⟨he, hb⟩ => ⟨_, he, ?_⟩
  refine law_post (fun t ht => ?_) rfl (by kernel_rfl) hW' rfl rfl rfl hb
  rw [Try.params8] at ht
  simp only [List.mem_cons, List.not_mem_nil, or_false] at ht
  rcases ht with rfl | rfl
  · exact ⟨by kernel_rfl, of_decide_eq_true (by kernel_rfl)⟩
  · exact ⟨by kernel_rfl, of_decide_eq_true (by kernel_rfl)⟩

/-- A WORLD FOR THE WITNESS: the settled one. -/
noncomputable def tapeSizeWorld (os : Os) : World := World.holding Try.prog os ⟨#[], #[], []⟩
set_option maxRecDepth 20000 in
theorem tapeSize_met (os : Os) : laidMet Try.prog Rows.tapeSizeRow.laid ((tapeSizeWorld os).forCall (fun _ _ => 0) ⟨#[], #[.slice none 0 0, .int .i64 0], []⟩).memory :=
  laidMet_of_run' 8 (by kernel_rfl) (by kernel_rfl)
set_option maxRecDepth 20000 in
theorem tapeSize_reads (os : Os) {H : Type} (enc : TypeId × Value → H) : ∃ places, DataW.whole enc Try.prog ((tapeSizeWorld os).forCall (fun _ _ => 0) ⟨#[], #[.slice none 0 0, .int .i64 0], []⟩).memory Try.f8.params.toList Rows.tapeSizeSpec.vars false #[Value.slice none 0 0, .int .i64 0].toList 8 = some ([.nil, .lit (.int .i64 0)], [], places) :=
  ⟨[], by kernel_rfl⟩

set_option maxRecDepth 100000 in
theorem tapeSize_lifted (os : Os) (started : os.Started) (H : Type) (enc : TypeId × Value → H) (F : Stop.Interp) :
    ReturnsInHanded {} Try.checked os 8 .any ((OpenSpec.ofChange Rows.tapeSizeSpec).preRow enc Try.prog Try.f8 Rows.tapeSizeRow.domain false Rows.tapeSizeRow.laid) (((OpenSpec.ofChange Rows.tapeSizeSpec).at F).post enc Try.prog Try.f8 false true false false) := by
  obtain ⟨places, hx⟩ := tapeSize_reads os enc
  refine returnsInHanded_of_row (C := Try.checked) (s := OpenSpec.ofChange Rows.tapeSizeSpec) own started (by kernel_rfl) Try.func8
    (witness_row_at (enc := enc) (C := Try.checked) false (tapeSizeWorld os) #[.slice none 0 0, .int .i64 0] rfl (by kernel_rfl) (by kernel_rfl) (by kernel_rfl)
      (OpenSpec.preRow_of_cond 8 hx (by kernel_rfl) (fun k hk => by cases hk) (by kernel_rfl) (tapeSize_met os))) ?_
  intro W base args ds gs before hval hW _ _ hsz hL _ _
  exact tapeSize_contract H enc W base args ds gs before hval hW hsz hL

set_option maxRecDepth 20000 in
theorem tapeSize_said : Rows.TapeSizeSaid :=
  OpenClaim.holds_of_cond 8 Try.f8 rfl rfl rfl rfl rfl rfl rfl ⟨rfl, rfl, rfl, rfl, rfl⟩ rfl rfl rfl rfl rfl (by kernel_rfl) Try.func8 (by kernel_rfl)
    (of_decide_eq_true (by kernel_rfl)) (by unfold Func.isWrapper; first | (rw [if_pos (by decide +kernel)]; kernel_rfl) | (rw [if_neg (by decide +kernel)]; exact ⟨rfl, rfl⟩))
    (fun os started H enc _ F => by rw [OpenClaim.pre_eq_preRow]; exact tapeSize_lifted os started H enc F)

#print axioms tapeSize_said
end Go.Proofs.Ytjnobdpjohbdnaa
