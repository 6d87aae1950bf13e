/-
  Proved: foretelllaw.TapeWrites answers true at every tape and every list of numbers (tape.Write answers as the document's P11.3 does, and changes nothing). No condition.
-/
import Derived.Test.YtojioopoblphfaaTMem
import Derived.Test.YtojioopoblphfaaTWritten
import Derived.Test.YtojioopoblphfaaTInts
namespace Go.Proofs.Ytojioopoblphfaa
open Go.ChangeShapes Go.WideShapes Go.ChangeAt Go.RowKit Go.Deep

theorem write_both (l : List UInt8) (s : Int) (r : List Int) (hr : r.length ≤ 140737488355328) : ∃ (m : List UInt8) (s' c : Int),
    (∀ (ao : Option Addr) (cap : Nat) (v : Value) (w1 : World), BytesV w1 (.slice ao l.length cap) l → IntsV w1 v r → Calls Try.prog 13 #[.agg #[.slice ao l.length cap, .int .i64 s], v] w1 (TAns w1 m s' c)) ∧
    (∀ (ao : Option Addr) (cap : Nat) (v : Value) (w1 : World), BytesV w1 (.slice ao l.length cap) l → IntsV w1 v r → Calls Try.prog 15 #[.agg #[.slice ao l.length cap, .int .i64 s], v] w1 (TAns w1 m s' c)) := by
  cases hm : mayB l.length s with
  | false => exact ⟨[], 0, 9, fun ao cap v w1 _ h => write_bad ao cap l s v r w1 hr h hm, fun ao cap v w1 _ h => written_bad ao cap l s v r w1 hr h hm⟩
  | true =>
    by_cases hz : 4000 < r.length
    · exact ⟨[], 0, 1, fun ao cap v w1 _ h => write_size ao cap l s v r w1 hr h hm hz, fun ao cap v w1 _ h => by have := written_err ao cap l s v r w1 hr h hm (by rw [wrC_long hz]; simp); rwa [wrC_long hz] at this⟩
    · cases ha : r.any outB with
      | true => exact ⟨[], 0, 2, fun ao cap v w1 _ h => write_range ao cap l s v r w1 hr h hm (by omega) ha, fun ao cap v w1 _ h => by have := written_err ao cap l s v r w1 hr h hm (by rw [wrC_out (by omega) ha]; simp); rwa [wrC_out (by omega) ha] at this⟩
      | false =>
        by_cases hf : 1048576 < l.length + (4 * r.length + 8)
        · exact ⟨[], 0, 12, fun ao cap v w1 _ h => write_full ao cap l s v r w1 hr h hm (by omega) ha hf, fun ao cap v w1 _ h => written_full ao cap l s v r w1 hr h hm (wrC_ok (by omega) ha) hf⟩
        · exact ⟨l ++ recB r, s, 0, fun ao cap v w1 hv h => write_ok ao cap l s v r w1 hv h hm (by omega) ha (by omega), fun ao cap v w1 hv h => written_ok ao cap l s v r w1 hr hv h hm (wrC_ok (by omega) ha) (by omega)⟩

set_option maxHeartbeats 1600000 in
set_option maxRecDepth 20000 in
theorem tapeWrites_walk (bv : Value) (s : Int) (l : List UInt8) (iv : Value) (r : List Int) (w : World) (hl : l.length ≤ 140737488355328) (hr8 : r.length * 8 ≤ 140737488355328) (hV : BytesV w bv l) (hI : IntsW w iv r) :
    Calls Try.prog 4 #[.agg #[bv, .int .i64 s], iv] w fun e w' => e = .returned (.bool true) ∧ Below w.heap.size w w' := by
  obtain ⟨ao, cap, rfl⟩ := hV.shape
  have hr : r.length ≤ 140737488355328 := by omega
  obtain ⟨io, icap, rfl⟩ : ∃ io icap, iv = .slice io r.length icap := by obtain ⟨a, c, h, _⟩ := id hI; exact ⟨a, c, h⟩
  obtain ⟨m, s', c, hX, hY⟩ := write_both l s r hr
  obtain ⟨hbA, hcA⟩ := Bc.arg w (.slice ao l.length cap) (.int .i64 s) 27
  have hcp := tapes_any ao cap l s (w.alloc (.cells #[.slice ao l.length cap, .int .i64 s] 27)) hl (hV.below hbA)
  have HA : Hid (∀ w1, Below (w.alloc (.cells #[.slice ao l.length cap, .int .i64 s] 27)).heap.size (w.alloc (.cells #[.slice ao l.length cap, .int .i64 s] 27)) w1 → Below w.heap.size w w1 ∧ Bc w1 w.heap.size (.slice ao l.length cap) (.int .i64 s)) := fun w1 hb => ⟨hbA.trans (hb.mono hbA.size), hcA.later hb⟩
  have HIc : Hid (∀ w1, Below w.heap.size w w1 → Calls Try.prog 14 #[.slice io r.length icap] w1 fun e w' => ∃ v', e = .returned v' ∧ Below w1.heap.size w1 w' ∧ Hid (IntsV w' v' r)) := fun w1 hb => (ints_any _ r w1 hr8 (hI.below hb)).mono fun e w' ⟨v', h1, h2, h3⟩ => ⟨v', h1, h2, intsV_of_owns h3⟩
  have HX : Hid (∀ (ao' : Option Addr) (cap' : Nat) (v : Value) (w1 : World), BytesV w1 (.slice ao' l.length cap') l → IntsV w1 v r → Calls Try.prog 13 #[.agg #[.slice ao' l.length cap', .int .i64 s], v] w1 fun e w' => ∃ xo xc, e = .returned (.tuple #[.agg #[.slice xo m.length xc, .int .i64 s'], .int .i64 c]) ∧ Below w1.heap.size w1 w' ∧ Hid (w'.ownsRow w1.heap.size 5 1 (.slice xo m.length xc) m.length (bvals m))) := fun ao' cap' v w1 hb h => hX ao' cap' v w1 hb h
  have HBo : Hid (∀ (W : World) (b : Nat) (v : Value), W.ownsRow b 5 1 v m.length (bvals m) → BytesV W v m) := fun W b v h => bytesV_of_owns h
  have HY : Hid (∀ (w1 : World), Below w.heap.size w w1 → Calls Try.prog 15 #[.agg #[.slice ao l.length cap, .int .i64 s], .slice io r.length icap] w1 fun e w' => ∃ xo xc, e = .returned (.tuple #[.agg #[.slice xo m.length xc, .int .i64 s'], .int .i64 c]) ∧ Below w1.heap.size w1 w' ∧ Hid (BytesV w' (.slice xo m.length xc) m)) := fun w1 hb => (hY ao cap _ w1 (hV.below hb) (hI.v.below hb)).mono fun e w' ⟨xo, xc, h1, h2, h3⟩ => ⟨xo, xc, h1, h2, bytesV_of_owns h3.out⟩
  have HS1 : Hid (∀ (ao bo : Option Addr) (ac bc : Nat) (w1 : World), BytesV w1 (.slice ao m.length ac) m → BytesV w1 (.slice bo m.length bc) m → Calls Try.prog 16 #[.agg #[.slice ao m.length ac, .int .i64 s'], .agg #[.slice bo m.length bc, .int .i64 s']] w1 fun e w' => e = .returned (.bool true) ∧ Below w1.heap.size w1 w') := fun ao bo ac bc w1 h1 h2 => sameTape_any ao bo ac bc m s' w1 h1 h2
  have HS2 : Hid (∀ (ac : Option Addr) (cc : Nat) (w1 : World), Below w.heap.size w w1 → BytesV w1 (.slice ac l.length cc) l → Calls Try.prog 16 #[.agg #[.slice ac l.length cc, .int .i64 s], .agg #[.slice ao l.length cap, .int .i64 s]] w1 fun e w' => e = .returned (.bool true) ∧ Below w1.heap.size w1 w') := fun ac cc w1 hb h1 => sameTape_any ac ao cc cap l s w1 h1 (hV.below hb)
  generalize m.length = k at *
  generalize l.length = n at *
  generalize r.length = rn at *
  clear hV hX hY hbA hcA hI
  have tk1 := True.intro
  have tk2 := True.intro
  go_enter Try.func4, Try.ntmps4
  go_wp2_with (first | (go_at_call 12; refine hcp.mono ?_; rintro e w1 ⟨co, cc, rfl, hb1, hv1⟩; obtain ⟨hw1, ha1⟩ := HA.out w1 hb1; obtain ⟨_, p0, p1⟩ := id ha1; obtain ⟨hb1n, hc1n⟩ := Bc.arg w1 (.slice co n cc) (.int .i64 s) 27; have hw1n := hw1.trans (hb1n.mono hw1.size); have hv1n := hv1.below hb1n; have ha1n := ha1.later hb1n))
  generalize hWn : w1.alloc (.cells #[.slice co n cc, .int .i64 s] 27) = wn at *
  have HWn := (show Hid _ from hWn)
  clear hWn
  go_cut [6, 7] (fun u6 u7 w' => ∃ B xo xc, u6 = .pointer (some ⟨B, 0, none⟩) ∧ u7 = .int .i64 c ∧ Below wn.heap.size wn w' ∧ Bc w' B (.slice xo k xc) (.int .i64 s') ∧ Hid (BytesV w' (.slice xo k xc) m))
  case first =>
    have hdr : Below wn.heap.size wn wn.drew := (Below.refl _ _).drew
    have hal : Below wn.heap.size wn (wn.alloc (.cells #[.slice none 0 0, .int .i64 0] 27)).drew := ((Below.refl _ _).alloc (Nat.le_refl _) _).drew
    have hiA := HIc.out wn.drew (hw1n.trans (hdr.mono hw1n.size))
    have hiB := HIc.out (wn.alloc (.cells #[.slice none 0 0, .int .i64 0] 27)).drew (hw1n.trans (hal.mono hw1n.size))
    have hcB : NBox (wn.alloc (.cells #[.slice none 0 0, .int .i64 0] 27)).drew wn.heap.size := NBox.new wn
    obtain ⟨z0, z1⟩ := hc1n.2
    obtain ⟨_, zA0, zA1⟩ := hc1n.later ((Below.refl _ _).alloc (Nat.le_refl _) (.cells #[.slice none 0 0, .int .i64 0] 27))
    go_region_law (first
      | (go_simp; go_at_call 14; refine hiA.mono ?_; rintro e w2 ⟨iv', rfl, hb2, hv2⟩; have hs2 := hdr.trans (hb2.mono hdr.size); have hx2 := HX.out co cc iv' w2 (hv1n.below hs2) hv2.out; have hx2' := HX.out co cc iv' (w2.alloc (.cells #[.slice none 0 0, .int .i64 0] 27)) ((hv1n.below hs2).below ((Below.refl _ _).alloc (Nat.le_refl _) _)) (hv2.out.below ((Below.refl _ _).alloc (Nat.le_refl _) _)); obtain ⟨_, zc0, zc1⟩ := hc1n.later hs2; obtain ⟨_, zd0, zd1⟩ := (hc1n.later hs2).later ((Below.refl _ _).alloc (Nat.le_refl _) (.cells #[.slice none 0 0, .int .i64 0] 27)))
      | (go_simp; go_at_call 14; refine hiB.mono ?_; rintro e w2 ⟨iv', rfl, hb2, hv2⟩; have hs2 := hal.trans (hb2.mono hal.size); have kB := hcB.later hb2; have hx2 := HX.out co cc iv' w2 (hv1n.below hs2) hv2.out; obtain ⟨_, zc0, zc1⟩ := hc1n.later hs2)
      | (go_simp; go_at_call 13; refine hx2.mono ?_; rintro e w3 ⟨xo, xc, rfl, hb3, hv3⟩; have hs3 := hs2.trans (hb3.mono hs2.size); have kC := kB.later hb3; have hlt3 := kB.1; obtain ⟨_, k0, k1, f0, f1⟩ := kB.later hb3)
      | (go_simp; go_at_call 13; refine hx2.mono ?_; rintro e w3 ⟨xo, xc, rfl, hb3, hv3⟩; have hs3 := hs2.trans (hb3.mono hs2.size))
      | (go_simp; go_at_call 13; refine hx2'.mono ?_; rintro e w3 ⟨xo, xc, rfl, hb3, hv3⟩; have hs2' := hs2.alloc hs2.size (.cells #[.slice none 0 0, .int .i64 0] 27); have hs3 := hs2'.trans (hb3.mono hs2'.size); have kD := (NBox.new w2).later hb3; have hlt3' := (NBox.new w2).1; obtain ⟨_, k0, k1, f0, f1⟩ := (NBox.new w2).later hb3))
    all_goals go_wp2_with fail
    all_goals go_meet
    all_goals first
      | exact ⟨_, xo, xc, rfl, rfl, hs3.alloc hs3.size _, (Bc.arg w3 _ _ _).2, (HBo.out _ _ _ hv3.out).below (Bc.arg w3 _ _ _).1⟩
      | exact ⟨_, xo, xc, rfl, rfl, (hs3.setCell (p := ⟨w2.heap.size, 0, none⟩) hs2.size _).setCell (p := ⟨w2.heap.size, 1, none⟩) hs2.size _, kD.set _ _, HBo.out _ _ _ (owns_setCell (owns_setCell hv3.out (p := ⟨w2.heap.size, 0, none⟩) hlt3' _) (p := ⟨w2.heap.size, 1, none⟩) hlt3' _)⟩
      | exact ⟨_, xo, xc, rfl, rfl, (hs3.setCell (p := ⟨wn.heap.size, 0, none⟩) (Nat.le_refl _) _).setCell (p := ⟨wn.heap.size, 1, none⟩) (Nat.le_refl _) _, kC.set _ _, HBo.out _ _ _ (owns_setCell (owns_setCell hv3.out (p := ⟨wn.heap.size, 0, none⟩) hlt3 _) (p := ⟨wn.heap.size, 1, none⟩) hlt3 _)⟩
  case rest =>
    obtain ⟨B, xo, xc, rfl, rfl, hs3, hd3n, hv3⟩ := hcut
    have ha3n := ha1n.later hs3
    have hc3n := hc1n.later hs3
    have hw3n := hw1n.trans (hs3.mono hw1n.size)
    have hvc3 := hv1n.below hs3
    have hy3 := HY.out _ hw3n
    obtain ⟨_, o0, o1⟩ := id ha3n
    go_wp2_with (first | (go_at_call 15; refine hy3.mono ?_; rintro e w4 ⟨yo, yc, rfl, hb4, hv4⟩; have hw4 := hw3n.trans (hb4.mono hw3n.size); obtain ⟨hb4n, he4n⟩ := Bc.arg w4 (.slice yo k yc) (.int .i64 s') 27; have hw4n := hw4.trans (hb4n.mono hw4.size); have ha4 := (ha3n.later hb4).later hb4n; have hc4 := (hc3n.later hb4).later hb4n; have hd4 := (hd3n.later hb4).later hb4n; have hvc4 := (hvc3.below hb4).below hb4n; have hvx4 := (hv3.out.below hb4).below hb4n; have hvy4 := hv4.out.below hb4n; obtain ⟨_, d0, d1⟩ := id hd4; obtain ⟨_, e0, e1⟩ := id he4n; have hs4 := HS1.out xo yo xc yc _ hvx4 hvy4) | (clear tk1; go_at_call 16; refine hs4.mono ?_; rintro e w5 ⟨rfl, hb5⟩; have hw5 := hw4n.trans (hb5.mono hw4n.size); obtain ⟨_, g0, g1⟩ := ha4.later hb5; obtain ⟨_, t0, t1⟩ := hc4.later hb5; have hs5 := HS2.out co cc w5 hw5 (hvc4.below hb5)) | (clear tk2; go_at_call 16; refine hs5.mono ?_; rintro e w6 ⟨rfl, hb6⟩))
    all_goals go_ret
    all_goals exact ⟨by first | rfl | simp, hw5.trans (hb6.mono hw5.size)⟩

set_option maxRecDepth 20000 in
theorem tapeWrites_contract (H : Type) (enc : TypeId × Value → H) (W : World) (base : Nat) (args : Array Value) (ds gs : List (DataW H)) (before : List MemPlace)
    (hval : ∀ (j : Nat) t v, Try.f4.params[j]? = some t → args[j]? = some v → Value.okWide Try.prog W .any base t v)
    (hW : DataW.Whole enc Try.prog Try.f4.params.toList Rows.tapeWritesSpec.vars false W args.toList ds gs before)
    (hsz0 : (DataW.weightsEach Try.prog (Try.f4.params.toList ++ (OpenSpec.ofChange Rows.tapeWritesSpec).bare.plain.varTypes Try.prog) (ds ++ gs)).all (· ≤ reachBytes) = true)
    (_hL : laidMetH Try.prog Rows.tapeWritesRow.laid W) :
    Calls Try.prog 4 args W fun e W' => ∃ v, e = .returned v ∧ Rows.tapeWritesSpec.post enc Try.prog Try.f4 false true false false W args v W' := by
  have hW' := hW
  obtain ⟨p, q, hA0, hV, rfl, hfz, hnd⟩ := hW
  have hA : DataW.TrodAll enc Try.prog W 0 (fun _ => true) true Try.f4.params.toList args.toList ds p := hA0
  rw [Try.params4] at hA hval
  obtain ⟨v0, vs0, d0, ds0, p0, q0, hargs, rfl, rfl, h0, r0⟩ := trodAll_cons hA
  obtain ⟨v1, vs1, d1, ds1, p1, q1, rfl, rfl, rfl, h1, r1⟩ := trodAll_cons r0
  obtain ⟨rfl, rfl, rfl⟩ := trodAll_nil r1
  obtain rfl : args = #[v0, v1] := by cases args; simp_all
  obtain ⟨rfl, rfl⟩ := trodVars_none hV
  have hsz : (DataW.weightsEach Try.prog [27, 28] [d0, d1]).all (· ≤ reachBytes) = true := hsz0
  obtain ⟨bv, s, l, rfl, hV, hl⟩ := open_tape (hval 0 27 v0 rfl rfl) h0 hsz (j := 0) rfl rfl
  obtain ⟨r, hI, hr8⟩ := open_ints (hval 1 28 v1 rfl rfl) h1 hsz (j := 1) rfl rfl
  refine (tapeWrites_walk bv s l v1 r W hl hr8 hV hI).mono fun e W' ⟨he, hb⟩ => ⟨_, he, ?_⟩
  refine law_post (fun t ht => ?_) rfl (by kernel_rfl) hW' rfl rfl rfl hb
  rw [Try.params4] at ht
  simp only [List.mem_cons, List.not_mem_nil, or_false] at ht
  rcases ht with rfl | rfl
  · exact ⟨by kernel_rfl, of_decide_eq_true (by kernel_rfl)⟩
  · exact ⟨by kernel_rfl, of_decide_eq_true (by kernel_rfl)⟩

/-- A WORLD FOR THE WITNESS: the settled one. -/
noncomputable def tapeWritesWorld (os : Os) : World := World.holding Try.prog os ⟨#[], #[], []⟩
set_option maxRecDepth 20000 in
theorem tapeWrites_met (os : Os) : laidMet Try.prog Rows.tapeWritesRow.laid ((tapeWritesWorld os).forCall (fun _ _ => 0) ⟨#[], #[.agg #[.slice none 0 0, .int .i64 0], .slice none 0 0], []⟩).memory :=
  laidMet_of_run' 8 (by kernel_rfl) (by kernel_rfl)
set_option maxRecDepth 20000 in
theorem tapeWrites_reads (os : Os) {H : Type} (enc : TypeId × Value → H) : ∃ places, DataW.whole enc Try.prog ((tapeWritesWorld os).forCall (fun _ _ => 0) ⟨#[], #[.agg #[.slice none 0 0, .int .i64 0], .slice none 0 0], []⟩).memory Try.f4.params.toList Rows.tapeWritesSpec.vars false #[Value.agg #[.slice none 0 0, .int .i64 0], .slice none 0 0].toList 8 = some ([.agg [.nil, .lit (.int .i64 0)], .nil], [], places) :=
  ⟨[], by kernel_rfl⟩

set_option maxRecDepth 100000 in
theorem tapeWrites_lifted (os : Os) (started : os.Started) (H : Type) (enc : TypeId × Value → H) (F : Stop.Interp) :
    ReturnsInHanded {} Try.checked os 4 .any ((OpenSpec.ofChange Rows.tapeWritesSpec).preRow enc Try.prog Try.f4 Rows.tapeWritesRow.domain false Rows.tapeWritesRow.laid) (((OpenSpec.ofChange Rows.tapeWritesSpec).at F).post enc Try.prog Try.f4 false true false false) := by
  obtain ⟨places, hx⟩ := tapeWrites_reads os enc
  refine returnsInHanded_of_row (C := Try.checked) (s := OpenSpec.ofChange Rows.tapeWritesSpec) own started (by kernel_rfl) Try.func4
    (witness_row_at (enc := enc) (C := Try.checked) false (tapeWritesWorld os) #[.agg #[.slice none 0 0, .int .i64 0], .slice none 0 0] rfl (by kernel_rfl) (by kernel_rfl) (by kernel_rfl)
      (OpenSpec.preRow_of_cond 8 hx (by kernel_rfl) (fun k hk => by cases hk) (by kernel_rfl) (tapeWrites_met os))) ?_
  intro W base args ds gs before hval hW _ _ hsz hL _ _
  exact tapeWrites_contract H enc W base args ds gs before hval hW hsz hL

set_option maxRecDepth 20000 in
theorem tapeWrites_said : Rows.TapeWritesSaid :=
  OpenClaim.holds_of_cond 4 Try.f4 rfl rfl rfl rfl rfl rfl rfl ⟨rfl, rfl, rfl, rfl, rfl⟩ rfl rfl rfl rfl rfl (by kernel_rfl) Try.func4 (by kernel_rfl)
    (of_decide_eq_true (by kernel_rfl)) (by unfold Func.isWrapper; first | (rw [if_pos (by decide +kernel)]; kernel_rfl) | (rw [if_neg (by decide +kernel)]; exact ⟨rfl, rfl⟩))
    (fun os started H enc _ F => by rw [OpenClaim.pre_eq_preRow]; exact tapeWrites_lifted os started H enc F)

#print axioms tapeWrites_said
end Go.Proofs.Ytojioopoblphfaa
