/-
  Proved: foretellkeep.StoreSteady answers true at every list of numbers and number (a key that is there changes nothing). No condition.
-/
import Derived.Test.YtncfkpfbjenpjaaUMem
import Derived.Test.YtncfkpfbjenpjaaUStock
namespace Go.Proofs.Ytncfkpfbjenpjaa
open Go.ChangeShapes Go.WideShapes Go.ChangeAt Go.RowKit Go.Deep

theorem newBox (w : World) (t : TypeId) : Bw (w.alloc (.cells #[.slice none 0 0, .slice none 0 0] t)) w.heap.size (.slice none 0 0) (.slice none 0 0) := Bw.new w _ _ _
theorem Bw.put {w : World} {b : Nat} {y0 y1 : Value} (h : Bw w b y0 y1) (u v : Value) : Bc ((w.setCell ⟨b, 0, none⟩ u).setCell ⟨b, 1, none⟩ v) b u v := by
  obtain ⟨⟨hlt, c0, c1⟩, f0, f1⟩ := h
  exact ⟨by simpa using hlt, by simp [go_sem, c0], by simp [go_sem, c1]⟩
theorem Bw.intsV {w : World} {b : Nat} {n0 c0 n1 c1 : Nat} {a0 a1 : Option Addr} (h : Bw w b (.slice a0 n0 c0) (.slice a1 n1 c1)) {x : Value} {l : List Int} (hx : IntsV w x l) (u v : Value) : IntsV ((w.setCell ⟨b, 0, none⟩ u).setCell ⟨b, 1, none⟩ v) x l := by
  obtain ⟨⟨hlt, d0, d1⟩, f0, f1⟩ := h
  have d1' : (w.setCell ⟨b, 0, none⟩ u).cell? ⟨b, 1, none⟩ = w.cell? ⟨b, 1, none⟩ := by simp [go_sem]
  exact (hx.setBox d0 _).setBox (d1'.trans d1) _
theorem Bw.lisX {w : World} {b B : Nat} {n0 c0 n1 c1 : Nat} {a0 a1 : Option Addr} (h : Bw w b (.slice a0 n0 c0) (.slice a1 n1 c1)) (hB : b < B) {x : Value} {l : List (List Int)} (hx : LisX w B x l) (u v : Value) : LisX ((w.setCell ⟨b, 0, none⟩ u).setCell ⟨b, 1, none⟩ v) B x l := by
  obtain ⟨⟨hlt, d0, d1⟩, f0, f1⟩ := h
  have d1' : (w.setCell ⟨b, 0, none⟩ u).cell? ⟨b, 1, none⟩ = w.cell? ⟨b, 1, none⟩ := by simp [go_sem]
  exact (hx.setBox (p := ⟨b, 0, none⟩) hB d0 _).setBox (p := ⟨b, 1, none⟩) hB (d1'.trans d1) _
set_option maxHeartbeats 3200000 in
set_option maxRecDepth 20000 in
theorem storeSteady_walk (v : Value) (l : List Int) (x : Int) (w : World) (hx : I64 x) (hV : IntsR w v l) :
    Calls Try.prog 6 #[v, .int .i64 x] w fun e w' => e = .returned (.bool true) ∧ Below w.heap.size w w' := by
  have hst := stocked_any v l w hV
  obtain ⟨ao, cap, rfl⟩ := hV.v.shape
  generalize l.length = ln at *
  clear hV
  unfold StoPost at hst
  have hst2 : Calls Try.prog 8 #[.slice ao ln cap] w fun e w' => ∃ (lo : List Int) (rs : List (List Int)) (m n kn : Nat) (la : Option Addr) (lc : Nat) (ra : Option Addr) (rc : Nat) (ka : Option Addr) (kc : Nat), e = .returned (.tuple #[.agg #[.slice la m lc, .slice ra n rc], .slice ka kn kc, .bool true]) ∧ Below w.heap.size w w' ∧ kn ≤ 100 ∧
      Hid (∀ w1, Below w'.heap.size w' w1 → IntsV w1 (.slice la m lc) lo ∧ LisV w1 (.slice ra n rc) rs) ∧
      Hid (∀ w1, Below w'.heap.size w' w1 → Calls Try.prog 10 #[.agg #[.slice la m lc, .slice ra n rc], .int .i64 (-1)] w1 fun e w2 => e = .returned (.tuple #[.bool false, .int .i64 2]) ∧ Below w1.heap.size w1 w2) ∧
      Hid (∀ j, j < kn → ∃ b off y, ka = some ⟨b, off, none⟩ ∧ b < w'.heap.size ∧ w'.cell? ⟨b, off + j, none⟩ = some (.int .i64 y) ∧ ∀ w1, Below w'.heap.size w' w1 → Calls Try.prog 13 #[.agg #[.slice la m lc, .slice ra n rc], .int .i64 y] w1 fun e w2 => ∃ xo xc yo yc, e = .returned (.tuple #[.agg #[.slice xo m xc, .slice yo n yc], .bool false, .int .i64 0]) ∧ Below w1.heap.size w1 w2 ∧ Hid (IntsN w2 w1.heap.size (.slice xo m xc) lo) ∧ Hid (LisX w2 w1.heap.size (.slice yo n yc) rs)) ∧
      Hid (∀ (va vb : Value) (w1 : World), IntsV w1 va lo → IntsV w1 vb lo → Calls Try.prog 14 #[va, vb] w1 fun e w2 => e = .returned (.bool true) ∧ ∃ q, w2 = w1.drewN q) ∧
      Hid (∀ (a b : Option Addr) (c d : Nat) (w1 : World), LisV w1 (.slice a n c) rs → LisV w1 (.slice b n d) rs → Calls Try.prog 15 #[.slice a n c, .slice b n d] w1 fun e w2 => e = .returned (.bool true) ∧ Below w1.heap.size w1 w2) := hst.mono fun e w' ⟨lo, rs, ks, la, lc, ra, rc, ka, kc, h1, h2, h3, h4, h5, h6, h7, h8, _⟩ => by
    have hmay := h6.out.may
    refine ⟨lo, rs, lo.length, rs.length, ks.length, la, lc, ra, rc, ka, kc, h1, h2, h7, fun w1 h => ⟨h3.out.below h, h4.out.below h⟩, fun w1 h => ?_, fun j hj => ?_, fun va vb w1 ha hb => sameIntsK_true va vb lo w1 (by have := hmay.sz.loose; omega) ha hb, fun a b c d w1 ha hb => sameListsK_true a b c d rs w1 (by have := hmay.size.runs; omega) (fun i hi => by have := hmay.sz.each i hi; omega) ha hb⟩
    · have := has_any lo rs (-1) la ra lc rc w1 hmay.sz (h3.out.below h) (h4.out.below h)
      rw [show hasC lo rs (-1) = (false, 2) by unfold hasC; rw [if_pos hmay, if_neg (by decide)]] at this
      exact this
    · obtain ⟨b, off, rfl, hb, _, hat⟩ := h5.out.at hj
      have hmem := getD_mem hj (0 : Int)
      obtain ⟨r1, r2⟩ := h8.out _ hmem
      refine ⟨b, off, ks.getD j 0, rfl, hb, hat j hj, fun w1 h => ?_⟩
      have := add_any lo rs (ks.getD j 0) la ra lc rc w1 hmay.sz (h3.out.below h) (h4.out.below h)
      rw [addC_is h6.out r1 (by omega) (by omega), if_pos hmem] at this
      exact this
  have hpk := fun (kn : Nat) (w1 : World) (h0 : 0 < kn) (h1 : kn ≤ 100) => picked_is x (kn : Int) w1 hx (by omega) (by omega)
  have HPk : Hid (∀ (kn : Nat), 0 < kn → kn ≤ 100 → ∃ j : Nat, j < kn ∧ ∀ w1, Calls Try.prog 9 #[.int .i64 x, .int .i64 kn] w1 fun e w' => e = .returned (.int .i64 j) ∧ w' = w1) := fun kn h0 h1 => by
    obtain ⟨p0, p1⟩ := pk_range (n := x) (m := (kn : Int)) (by omega)
    refine ⟨(pk x kn).toNat, by omega, fun w1 => (hpk kn w1 h0 h1).mono fun e w' ⟨e1, e2⟩ => ⟨by rw [e1]; congr 2; omega, e2⟩⟩
  clear hst hpk
  go_enter Try.func6, Try.ntmps6
  go_wp2_with (first | (go_at_call 8; refine hst2.mono ?_; rintro e w1 ⟨lo, rs, m, n, kn, la, lc, ra, rc, ka, kc, rfl, hb1, hk100, HV, HHas, HAdd, HSi, HSl⟩; obtain ⟨hbn, hcn⟩ := Bc.arg w1 (.slice la m lc) (.slice ra n rc) 25; obtain ⟨_, c0, c1⟩ := id hcn; have hha := HHas.out _ hbn; have hB1 := hb1.trans (hbn.mono hb1.size); rcases (show kn = 0 ∨ ¬ (kn : Int) = 0 from (by omega)) with rfl | hk0) | (go_at_call 10; refine hha.mono ?_; rintro e w2 ⟨rfl, hb2⟩))
  · go_ret
    exact ⟨rfl, hB1.trans (hb2.mono hB1.size)⟩
  · have hkp : 0 < kn := by omega
    obtain ⟨j, hj, hpj⟩ := HPk.out kn hkp hk100
    obtain ⟨b, off, y, rfl, hb, d1, hadd⟩ := HAdd.out j hj
    have HAd : Hid (∀ w2, Below w1.heap.size w1 w2 → Calls Try.prog 13 #[.agg #[.slice la m lc, .slice ra n rc], .int .i64 y] w2 fun e w3 => ∃ xo xc yo yc, e = .returned (.tuple #[.agg #[.slice xo m xc, .slice yo n yc], .bool false, .int .i64 0]) ∧ Below w2.heap.size w2 w3 ∧ Hid (IntsN w3 w2.heap.size (.slice xo m xc) lo) ∧ Hid (LisX w3 w2.heap.size (.slice yo n yc) rs)) := hadd
    have HD : Hid (∀ w2, Below w1.heap.size w1 w2 → w2.cell? ⟨b, off + j, none⟩ = some (.int .i64 y)) := fun w2 h => (h.cell (p := ⟨b, off + j, none⟩) hb).trans d1
    have ji : (j : Int) < (kn : Int) := by omega
    clear hadd HAdd HPk hha HHas d1 hst2
    obtain ⟨wn, hwn⟩ : ∃ wn, wn = w1.alloc (.cells #[.slice la m lc, .slice ra n rc] 25) := ⟨_, rfl⟩
    rw [← hwn] at hbn hcn c0 c1 hB1 ⊢
    clear hwn
    go_cut [10, 11, 12] (fun u10 u11 u12 w' => ∃ B xo xc yo yc, u10 = .pointer (some ⟨B, 0, none⟩) ∧ u11 = .bool false ∧ u12 = .int .i64 0 ∧ Below wn.heap.size wn w' ∧ Bc w' B (.slice xo m xc) (.slice yo n yc) ∧ Hid (IntsV w' (.slice xo m xc) lo ∧ LisV w' (.slice yo n yc) rs))
    case first =>
      have hdr : Below wn.heap.size wn wn.drew := (Below.refl _ _).drew
      have hal : Below wn.heap.size wn (wn.alloc (.cells #[.slice none 0 0, .slice none 0 0] 25)).drew := ((Below.refl _ _).alloc (Nat.le_refl _) _).drew
      have hcB : Bw (wn.alloc (.cells #[.slice none 0 0, .slice none 0 0] 25)).drew wn.heap.size (.slice none 0 0) (.slice none 0 0) := (newBox wn 25).later ((Below.refl _ _).drew)
      have haA := HAd.out wn.drew (hbn.trans (hdr.mono hbn.size))
      have haB := HAd.out (wn.alloc (.cells #[.slice none 0 0, .slice none 0 0] 25)).drew (hbn.trans (hal.mono hbn.size))
      have e0 := HD.out wn hbn
      have e1 := HD.out (wn.alloc (.cells #[.slice none 0 0, .slice none 0 0] 25)) (hbn.trans (((Below.refl wn.heap.size wn).alloc (Nat.le_refl _) _).mono hbn.size))
      obtain ⟨_, zA0, zA1⟩ := hcn.later ((Below.refl _ _).alloc (Nat.le_refl _) (.cells #[.slice none 0 0, .slice none 0 0] 25))
      go_region_law (first
        | (go_simp; go_at_call 9; refine (hpj _).mono ?_; rintro e w2 ⟨rfl, rfl⟩)
        | (go_simp; go_at_call 13; refine haA.mono ?_; rintro e w3 ⟨xo, xc, yo, yc, rfl, hb3, hx3, hy3⟩; have hs3 := hdr.trans (hb3.mono hdr.size))
        | (go_simp; go_at_call 13; refine haB.mono ?_; rintro e w3 ⟨xo, xc, yo, yc, rfl, hb3, hx3, hy3⟩; have hs3 := hal.trans (hb3.mono hal.size); have kC := hcB.later hb3; have hlt3 := hcB.1.1; obtain ⟨⟨_, k0, k1⟩, f0, f1⟩ := id kC))
      all_goals go_wp2_with fail
      all_goals go_meet
      all_goals first
        | exact ⟨_, xo, xc, yo, yc, rfl, rfl, rfl, hs3.alloc hs3.size _, (Bc.arg w3 _ _ _).2, hx3.out.v.below (Bc.arg w3 _ _ _).1, hy3.out.v.below (Bc.arg w3 _ _ _).1⟩
        | exact ⟨_, xo, xc, yo, yc, rfl, rfl, rfl, (hs3.setCell (p := ⟨wn.heap.size, 0, none⟩) (Nat.le_refl _) _).setCell (p := ⟨wn.heap.size, 1, none⟩) (Nat.le_refl _) _, kC.put _ _, kC.intsV hx3.out.v _ _, (kC.lisX hlt3 hy3.out _ _).v⟩
    case rest =>
      obtain ⟨B, xo, xc, yo, yc, rfl, rfl, rfl, hs3, hd3, hv3⟩ := hcut
      have hbx := hbn.trans (hs3.mono hbn.size)
      have hcx := hcn.later hs3
      obtain ⟨_, g0, g1⟩ := id hcx
      obtain ⟨_, h0, h1⟩ := id hd3
      have hsi := HSi.out (.slice la m lc) (.slice xo m xc) _ (HV.out _ hbx).1 hv3.out.1
      have HSl2 : Hid (∀ q, Calls Try.prog 15 #[.slice ra n rc, .slice yo n yc] (World.drewN _ q) fun e w2 => e = .returned (.bool true) ∧ Below _ _ w2) := fun q => HSl.out ra yo rc yc _ ((HV.out _ hbx).2.below (below_drewN (Below.refl _ _) q)) (hv3.out.2.below (below_drewN (Below.refl _ _) q))
      have hBx := hB1.trans (hs3.mono hB1.size)
      clear HSi HSl HV HAd HD hpj
      go_wp2_with (first | (go_at_call 14; refine hsi.mono ?_; rintro e w5 ⟨rfl, q, rfl⟩; have hsl := HSl2.out q) | (go_at_call 15; refine hsl.mono ?_; rintro e w6 ⟨rfl, hb6⟩))
      all_goals go_ret
      all_goals exact ⟨by first | rfl | simp, (below_drewN hBx q).trans (hb6.mono (below_drewN hBx q).size)⟩

set_option maxRecDepth 20000 in
theorem storeSteady_contract (H : Type) (enc : TypeId × Value → H) (W : World) (base : Nat) (args : Array Value) (ds gs : List (DataW H)) (before : List MemPlace)
    (hval : ∀ (j : Nat) t v, Try.f6.params[j]? = some t → args[j]? = some v → Value.okWide Try.prog W .any base t v)
    (hW : DataW.Whole enc Try.prog Try.f6.params.toList Rows.storeSteadySpec.vars false W args.toList ds gs before)
    (hsz0 : (DataW.weightsEach Try.prog (Try.f6.params.toList ++ (OpenSpec.ofChange Rows.storeSteadySpec).bare.plain.varTypes Try.prog) (ds ++ gs)).all (· ≤ reachBytes) = true)
    (_hL : laidMetH Try.prog Rows.storeSteadyRow.laid W) :
    Calls Try.prog 6 args W fun e W' => ∃ v, e = .returned v ∧ Rows.storeSteadySpec.post enc Try.prog Try.f6 false true false false W args v W' := by
  have hW' := hW
  obtain ⟨p, q, hA0, hV, rfl, hfz, hnd⟩ := hW
  have hA : DataW.TrodAll enc Try.prog W 0 (fun _ => true) true Try.f6.params.toList args.toList ds p := hA0
  rw [Try.params6] at hA hval
  obtain ⟨v0, vs0, d0, ds0, p0, q0, hargs, rfl, rfl, h0, r0⟩ := trodAll_cons hA
  obtain ⟨v1, vs1, d1, ds1, p1, q1, rfl, rfl, rfl, h1, r1⟩ := trodAll_cons r0
  obtain ⟨rfl, rfl, rfl⟩ := trodAll_nil r1
  obtain rfl : args = #[v0, v1] := by cases args; simp_all
  obtain ⟨rfl, rfl⟩ := trodVars_none hV
  have hsz : (DataW.weightsEach Try.prog [22, 3] [d0, d1]).all (· ≤ reachBytes) = true := hsz0
  obtain ⟨l, hV⟩ := open_raws (hval 0 22 v0 rfl rfl) h0 hsz (j := 0) rfl rfl
  obtain ⟨x, rfl, rfl, rfl, wf1⟩ := open_int Try.underlying3 (hval 1 3 v1 rfl rfl) h1
  refine (storeSteady_walk v0 l x W (bounds_i64 wf1) hV).mono fun e W' ⟨he, hb⟩ => ⟨_, he, ?_⟩
  refine law_post (fun t ht => ?_) rfl (by kernel_rfl) hW' rfl rfl rfl hb
  rw [Try.params6] at ht
  simp only [List.mem_cons, List.not_mem_nil, or_false] at ht
  rcases ht with rfl | rfl
  · exact ⟨by kernel_rfl, of_decide_eq_true (by kernel_rfl)⟩
  · exact ⟨by kernel_rfl, of_decide_eq_true (by kernel_rfl)⟩

/-- A WORLD FOR THE WITNESS: the settled one. -/
noncomputable def storeSteadyWorld (os : Os) : World := World.holding Try.prog os ⟨#[], #[], []⟩
set_option maxRecDepth 20000 in
theorem storeSteady_met (os : Os) : laidMet Try.prog Rows.storeSteadyRow.laid ((storeSteadyWorld os).forCall (fun _ _ => 0) ⟨#[], #[.slice none 0 0, .int .i64 0], []⟩).memory :=
  laidMet_of_run' 8 (by kernel_rfl) (by kernel_rfl)
set_option maxRecDepth 20000 in
theorem storeSteady_reads (os : Os) {H : Type} (enc : TypeId × Value → H) : ∃ places, DataW.whole enc Try.prog ((storeSteadyWorld os).forCall (fun _ _ => 0) ⟨#[], #[.slice none 0 0, .int .i64 0], []⟩).memory Try.f6.params.toList Rows.storeSteadySpec.vars false #[Value.slice none 0 0, .int .i64 0].toList 8 = some ([.nil, .lit (.int .i64 0)], [], places) :=
  ⟨[], by kernel_rfl⟩

set_option maxRecDepth 100000 in
theorem storeSteady_lifted (os : Os) (started : os.Started) (H : Type) (enc : TypeId × Value → H) (F : Stop.Interp) :
    ReturnsInHanded {} Try.checked os 6 .any ((OpenSpec.ofChange Rows.storeSteadySpec).preRow enc Try.prog Try.f6 Rows.storeSteadyRow.domain false Rows.storeSteadyRow.laid) (((OpenSpec.ofChange Rows.storeSteadySpec).at F).post enc Try.prog Try.f6 false true false false) := by
  obtain ⟨places, hx⟩ := storeSteady_reads os enc
  refine returnsInHanded_of_row (C := Try.checked) (s := OpenSpec.ofChange Rows.storeSteadySpec) own started (by kernel_rfl) Try.func6
    (witness_row_at (enc := enc) (C := Try.checked) false (storeSteadyWorld os) #[.slice none 0 0, .int .i64 0] rfl (by kernel_rfl) (by kernel_rfl) (by kernel_rfl)
      (OpenSpec.preRow_of_cond 8 hx (by kernel_rfl) (fun k hk => by cases hk) (by kernel_rfl) (storeSteady_met os))) ?_
  intro W base args ds gs before hval hW _ _ hsz hL _ _
  exact storeSteady_contract H enc W base args ds gs before hval hW hsz hL

set_option maxRecDepth 20000 in
theorem storeSteady_said : Rows.StoreSteadySaid :=
  OpenClaim.holds_of_cond 6 Try.f6 rfl rfl rfl rfl rfl rfl rfl ⟨rfl, rfl, rfl, rfl, rfl⟩ rfl rfl rfl rfl rfl (by kernel_rfl) Try.func6 (by kernel_rfl)
    (of_decide_eq_true (by kernel_rfl)) (by unfold Func.isWrapper; first | (rw [if_pos (by decide +kernel)]; kernel_rfl) | (rw [if_neg (by decide +kernel)]; exact ⟨rfl, rfl⟩))
    (fun os started H enc _ F => by rw [OpenClaim.pre_eq_preRow]; exact storeSteady_lifted os started H enc F)

#print axioms storeSteady_said
end Go.Proofs.Ytncfkpfbjenpjaa
