/-
  Proved: foretellkeep.SumOne answers true at every list of bytes and every two numbers (one changed byte changes the sum). No condition.
-/
import Derived.Test.YtjnobdpjohbdnaaTMem
import Derived.Test.YtjnobdpjohbdnaaSumOneM
namespace Go.Proofs.Ytjnobdpjohbdnaa
open Go.ChangeShapes Go.WideShapes Go.ChangeAt Go.RowKit Go.Deep

set_option maxHeartbeats 1600000 in
set_option maxRecDepth 20000 in
theorem sumOne_walk (bv : Value) (l : List UInt8) (x y : Int) (w : World) (hx : I64 x) (hy : I64 y) (hl : l.length ≤ 140737488355328) (hV : BytesV w bv l) :
    Calls Try.prog 3 #[bv, .int .i64 x, .int .i64 y] w fun e w' => e = .returned (.bool true) ∧ Below w.heap.size w w' := by
  obtain ⟨ao, cap, rfl⟩ := hV.shape
  have hso := some_any _ l 300 w hl (by decide) hV
  obtain ⟨q, hq⟩ : ∃ q, min l.length 300 = q := ⟨_, rfl⟩
  rw [hq] at hso
  have hq3 : q ≤ 300 := by omega
  obtain ⟨r, hr⟩ : ∃ r, l.take q = r := ⟨_, rfl⟩
  have hrl : r.length = q := by rw [← hr, List.length_take]; omega
  rw [hr] at hso
  clear hr hq
  have HSum : Hid (∀ (v : Value) (r : List UInt8) (w1 : World), r.length ≤ 140737488355328 → BytesV w1 v r → Calls Try.prog 10 #[v] w1 fun e w' => e = .returned (.int .i64 (sumL r)) ∧ w' = w1) := fun v r w1 h1 h2 => sum_any v r w1 h1 h2
  have hlt := sumL_lt r
  have HPk : Hid (∀ (n m : Int) (w1 : World), I64 n → 0 < m → m ≤ 4294967296 → Calls Try.prog 11 #[.int .i64 n, .int .i64 m] w1 fun e w' => e = .returned (.int .i64 (pk n m)) ∧ w' = w1) := fun n m w1 h1 h2 h3 => picked_is n m w1 h1 h2 h3
  have HBo : Hid (∀ (W : World) (v : Value), W.ownsRow w.heap.size 5 1 v q (bvals r) → BytesV W v r) := fun W v h => bytesV_of_owns (by rw [hrl]; exact h)
  have HRl : Hid (r.length = q) := hrl
  generalize l.length = n at *
  clear hV
  by_cases hq0 : q = 0
  · subst hq0
    have hr0 : r = [] := List.length_eq_zero_iff.1 hrl
    have hs1 : sumL r = 1 := by rw [hr0]; rfl
    clear hrl
    go_enter Try.func3, Try.ntmps3
    go_wp2_with (first | (go_at_call 9; refine hso.mono ?_; rintro e w1 ⟨v', rfl, hb1, hO1⟩; obtain ⟨vo, vc, rfl⟩ := owns_slice hO1; have hsu := HSum.out _ r w1 (by rw [HRl.out]; decide) (HBo.out w1 _ hO1); rw [hs1] at hsu) | (go_at_call 10; refine hsu.mono ?_; rintro e w2 ⟨rfl, rfl⟩))
    go_ret
    exact ⟨by first | rfl | simp, hb1⟩
  · have hqp : 0 < q := by omega
    have hpa := pk_range (n := x) (m := (q : Int)) (by omega)
    have hpb := pk_range (n := y) (m := 255) (by decide)
    obtain ⟨i, hi⟩ : ∃ i : Nat, pk x (q : Int) = (i : Int) := ⟨(pk x q).toNat, by omega⟩
    obtain ⟨j, hj⟩ : ∃ j : Nat, pk y 255 = (j : Int) := ⟨(pk y 255).toNat, by omega⟩
    have hil : i < q := by omega
    have hjl : j + 1 < 256 := by omega
    have hp1 := fun w1 => HPk.out x q w1 hx (by omega) (by omega)
    have hp2 := fun w1 => HPk.out y 255 w1 hy (by decide) (by decide)
    rw [hi] at hp1
    rw [hj] at hp2
    have hxo : bits BinOp.xor IntKind.u8 ((r.getD i 0).toNat : Int) ((j : Int) + 1) = ((xb (r.getD i 0) (j + 1)).toNat : Int) := by
      have := u8_xor_nat (r.getD i 0).toNat (j + 1) (UInt8.toNat_lt _) hjl
      rw [xb_toNat _ hjl, ← this]
      rfl
    have hxo2 : bits BinOp.xor IntKind.u8 ((r.getD i 0).toNat : Int) (1 + (j : Int)) = ((xb (r.getD i 0) (j + 1)).toNat : Int) := by rw [Int.add_comm, hxo]
    have hne : sumL r ≠ sumL (r.set i (xb (r.getD i 0) (j + 1))) := fun h => xb_ne (r.getD i 0) hjl (Nat.succ_pos _) (sum_set (by omega) h)
    have hlt2 := sumL_lt (r.set i (xb (r.getD i 0) (j + 1)))
    have HSt : Hid (∀ (w1 : World) (g c : Nat), BytesV w1 (.slice (some ⟨g, 0, none⟩) q c) r → BytesV (w1.setCell ⟨g, i, none⟩ (.int .u8 ((xb (r.getD i 0) (j + 1)).toNat : Int))) (.slice (some ⟨g, 0, none⟩) q c) (r.set i (xb (r.getD i 0) (j + 1)))) := fun w1 g c h => bytesV_set h (by omega)
    have HSl : Hid ((r.set i (xb (r.getD i 0) (j + 1))).length ≤ 140737488355328) := by show _ ≤ _; rw [List.length_set]; omega
    have HCi : Hid (∀ (w1 : World) (g c : Nat), w1.ownsRow w.heap.size 5 1 (.slice (some ⟨g, 0, none⟩) q c) q (bvals r) → w1.cell? ⟨g, i, none⟩ = some (.int .u8 ((r.getD i 0).toNat : Int)) ∧ w1.frozen? ⟨g, i, none⟩ = false ∧ w.heap.size ≤ g) := fun w1 g c h => by
      refine ⟨?_, ?_, (h.lt g rfl).1⟩
      · rw [h.cellAt i (by omega)]
        simp [bvals, List.getD_eq_getElem?_getD, show i < r.length by omega]
      · rcases h.2 with ⟨hv, _⟩ | ⟨g', cap', cur, hv, hb, hg, _⟩
        · cases hv
        · cases hv
          simp [World.frozen?, hg]
    have HGs : Hid (∀ (w1 : World) (vo : Option Addr) (vc : Nat), w1.ownsRow w.heap.size 5 1 (.slice vo q vc) q (bvals r) → ∃ g, vo = some ⟨g, 0, none⟩) := fun w1 vo vc h => by
      rcases h.2 with ⟨hv, h0⟩ | ⟨g', cap', cur, hv, _⟩
      · exfalso; injection hv with _ h1 _; omega
      · injection hv with h1 _ _; exact ⟨g', h1⟩
    have hrle : r.length ≤ 140737488355328 := by omega
    clear hrl hpa hpb hi hj
    generalize hr2 : r.set i (xb (r.getD i 0) (j + 1)) = r2 at *
    clear hr2
    generalize (xb (r.getD i 0) (j + 1)).toNat = nb at *
    generalize (r.getD i 0).toNat = ob at *
    have hwr : IntKind.u8.wrap (IntKind.i64.wrap (1 + (j : Int))) = 1 + (j : Int) := by rw [IntWalk.i64_left, IntWalk.wrap64_in _ (by omega)]; rw [IntKind.wrap_u8]; omega
    have hin : (i : Int) < (q : Int) := by omega
    have hnc : ¬ ((q : Int) = 0) := by omega
    go_enter Try.func3, Try.ntmps3
    go_wp2_with (first | (go_at_call 9; refine hso.mono ?_; rintro e w1 ⟨v', rfl, hb1, hO1⟩; obtain ⟨vo, vc, rfl⟩ := owns_slice hO1; obtain ⟨g, rfl⟩ := HGs.out w1 vo vc hO1; obtain ⟨cg, fg, hwg⟩ := HCi.out w1 g vc hO1; have hbv1 := HBo.out w1 _ hO1; have hsu := HSum.out _ r w1 hrle hbv1) | (go_at_call 10; refine hsu.mono ?_; rintro e w2 ⟨rfl, rfl⟩))
    go_cut [] (fun w' => Hid (Below w.heap.size w w' ∧ BytesV w' (.slice (some ⟨g, 0, none⟩) q vc) r2))
    case first =>
      go_region_law (first | (go_simp; go_at_call_of 11 x; refine (hp1 _).mono ?_; rintro e w3 ⟨rfl, rfl⟩) | (go_simp; go_at_call_of 11 y; refine (hp2 _).mono ?_; rintro e w3 ⟨rfl, rfl⟩))
      all_goals go_wp2_with fail
      all_goals go_meet
      all_goals
        exact ⟨(hb1.setCell (p := ⟨g, i, none⟩) hwg _).drew, (HSt.out _ g vc hbv1).below (Below.refl _ _).drew⟩
    case rest =>
      obtain ⟨hbz, hbvz⟩ := hcut.out
      have hsu2 := HSum.out _ r2 _ HSl.out hbvz
      clear hsu hxo hxo2 hwr hp1 hp2 hjl HPk HCi HGs HBo HSt HSum hso hcut hbvz hbv1 hO1 cg fg hwg HSl HRl hrle hl hx hy hq3 hil hin
      generalize sumL r2 = s2 at *
      generalize sumL r = s1 at *
      have e1 : ¬ ((s1 : Int) = (s2 : Int)) := by omega
      have e2 : (0 : Int) ≤ (s1 : Int) := by omega
      have e3 : (s1 : Int) < 2147483629 := by omega
      clear hne hlt hlt2
      generalize (s1 : Int) = z1 at *
      generalize (s2 : Int) = z2 at *
      go_wp2_with (first | (go_at_call 10; refine hsu2.mono ?_; rintro e w5 ⟨rfl, rfl⟩))
      all_goals go_ret
      all_goals exact ⟨by simp [e1], hbz⟩

set_option maxRecDepth 20000 in
theorem sumOne_contract (H : Type) (enc : TypeId × Value → H) (W : World) (base : Nat) (args : Array Value) (ds gs : List (DataW H)) (before : List MemPlace)
    (hval : ∀ (j : Nat) t v, Try.f3.params[j]? = some t → args[j]? = some v → Value.okWide Try.prog W .any base t v)
    (hW : DataW.Whole enc Try.prog Try.f3.params.toList Rows.sumOneSpec.vars false W args.toList ds gs before)
    (hsz0 : (DataW.weightsEach Try.prog (Try.f3.params.toList ++ (OpenSpec.ofChange Rows.sumOneSpec).bare.plain.varTypes Try.prog) (ds ++ gs)).all (· ≤ reachBytes) = true)
    (_hL : laidMetH Try.prog Rows.sumOneRow.laid W) :
    Calls Try.prog 3 args W fun e W' => ∃ v, e = .returned v ∧ Rows.sumOneSpec.post enc Try.prog Try.f3 false true false false W args v W' := by
  have hW' := hW
  obtain ⟨p, q, hA0, hV, rfl, hfz, hnd⟩ := hW
  have hA : DataW.TrodAll enc Try.prog W 0 (fun _ => true) true Try.f3.params.toList args.toList ds p := hA0
  rw [Try.params3] at hA hval
  obtain ⟨v0, vs0, d0, ds0, p0, q0, hargs, rfl, rfl, h0, r0⟩ := trodAll_cons hA
  obtain ⟨v1, vs1, d1, ds1, p1, q1, rfl, rfl, rfl, h1, r1⟩ := trodAll_cons r0
  obtain ⟨v2, vs2, d2, ds2, p2, q2, rfl, rfl, rfl, h2, r2⟩ := trodAll_cons r1
  obtain ⟨rfl, rfl, rfl⟩ := trodAll_nil r2
  obtain rfl : args = #[v0, v1, v2] := by cases args; simp_all
  obtain ⟨rfl, rfl⟩ := trodVars_none hV
  have hsz : (DataW.weightsEach Try.prog [22, 3, 3] [d0, d1, d2]).all (· ≤ reachBytes) = true := hsz0
  obtain ⟨l, hV, hl⟩ := open_bytes (hval 0 22 v0 rfl rfl) h0 hsz (j := 0) rfl rfl
  obtain ⟨x, rfl, rfl, rfl, wf1⟩ := open_int Try.underlying3 (hval 1 3 v1 rfl rfl) h1
  obtain ⟨y, rfl, rfl, rfl, wf2⟩ := open_int Try.underlying3 (hval 2 3 v2 rfl rfl) h2
  refine (sumOne_walk v0 l x y W (bounds_i64 wf1) (bounds_i64 wf2) hl hV).mono fun e W' ⟨he, hb⟩ => ⟨_, he, ?_⟩
  refine law_post (fun t ht => ?_) rfl (by kernel_rfl) hW' rfl rfl rfl hb
  rw [Try.params3] at ht
  simp only [List.mem_cons, List.not_mem_nil, or_false] at ht
  rcases ht with rfl | rfl | rfl
  · exact ⟨by kernel_rfl, of_decide_eq_true (by kernel_rfl)⟩
  · exact ⟨by kernel_rfl, of_decide_eq_true (by kernel_rfl)⟩
  · exact ⟨by kernel_rfl, of_decide_eq_true (by kernel_rfl)⟩

/-- A WORLD FOR THE WITNESS: the settled one. -/
noncomputable def sumOneWorld (os : Os) : World := World.holding Try.prog os ⟨#[], #[], []⟩
set_option maxRecDepth 20000 in
theorem sumOne_met (os : Os) : laidMet Try.prog Rows.sumOneRow.laid ((sumOneWorld os).forCall (fun _ _ => 0) ⟨#[], #[.slice none 0 0, .int .i64 0, .int .i64 0], []⟩).memory :=
  laidMet_of_run' 8 (by kernel_rfl) (by kernel_rfl)
set_option maxRecDepth 20000 in
theorem sumOne_reads (os : Os) {H : Type} (enc : TypeId × Value → H) : ∃ places, DataW.whole enc Try.prog ((sumOneWorld os).forCall (fun _ _ => 0) ⟨#[], #[.slice none 0 0, .int .i64 0, .int .i64 0], []⟩).memory Try.f3.params.toList Rows.sumOneSpec.vars false #[Value.slice none 0 0, .int .i64 0, .int .i64 0].toList 8 = some ([.nil, .lit (.int .i64 0), .lit (.int .i64 0)], [], places) :=
  ⟨[], by kernel_rfl⟩

set_option maxRecDepth 100000 in
theorem sumOne_lifted (os : Os) (started : os.Started) (H : Type) (enc : TypeId × Value → H) (F : Stop.Interp) :
    ReturnsInHanded {} Try.checked os 3 .any ((OpenSpec.ofChange Rows.sumOneSpec).preRow enc Try.prog Try.f3 Rows.sumOneRow.domain false Rows.sumOneRow.laid) (((OpenSpec.ofChange Rows.sumOneSpec).at F).post enc Try.prog Try.f3 false true false false) := by
  obtain ⟨places, hx⟩ := sumOne_reads os enc
  refine returnsInHanded_of_row (C := Try.checked) (s := OpenSpec.ofChange Rows.sumOneSpec) own started (by kernel_rfl) Try.func3
    (witness_row_at (enc := enc) (C := Try.checked) false (sumOneWorld os) #[.slice none 0 0, .int .i64 0, .int .i64 0] rfl (by kernel_rfl) (by kernel_rfl) (by kernel_rfl)
      (OpenSpec.preRow_of_cond 8 hx (by kernel_rfl) (fun k hk => by cases hk) (by kernel_rfl) (sumOne_met os))) ?_
  intro W base args ds gs before hval hW _ _ hsz hL _ _
  exact sumOne_contract H enc W base args ds gs before hval hW hsz hL

set_option maxRecDepth 20000 in
theorem sumOne_said : Rows.SumOneSaid :=
  OpenClaim.holds_of_cond 3 Try.f3 rfl rfl rfl rfl rfl rfl rfl ⟨rfl, rfl, rfl, rfl, rfl⟩ rfl rfl rfl rfl rfl (by kernel_rfl) Try.func3 (by kernel_rfl)
    (of_decide_eq_true (by kernel_rfl)) (by unfold Func.isWrapper; first | (rw [if_pos (by decide +kernel)]; kernel_rfl) | (rw [if_neg (by decide +kernel)]; exact ⟨rfl, rfl⟩))
    (fun os started H enc _ F => by rw [OpenClaim.pre_eq_preRow]; exact sumOne_lifted os started H enc F)

#print axioms sumOne_said
end Go.Proofs.Ytjnobdpjohbdnaa
