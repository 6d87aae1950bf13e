/-
  The contract of the closure that meets places (scc.look's meet).
-/
import Derived.Test.YtknneajaklcjdaaLookM
import Derived.Test.YtknneajaklcjdaaSCheck
import Derived.Maps.OwnSet
import Derived.Maps.OwnOps
namespace Go.Proofs.Ytknneajaklcjdaa
open Go.ChangeShapes Go.WideShapes Go.ChangeAt Go.RowKit Go.Deep Go.Maps
open Terms

set_option maxRecDepth 20000 in
theorem keyInt : Keyed Try.prog 3 := int_keyed Try.underlying3
set_option maxRecDepth 20000 in
theorem keyG (x : Nat) (h : x ≤ 20000) : keyOf Try.prog 3 (.int .i64 (x : Int)) = some (.int .i64 (x : Int)) := keyOf_int_mk Try.underlying3 (WalkArith.wf_i64 (by omega))
set_option maxRecDepth 20000 in
theorem zeroInt (w : World) : (zeroValue 3).run Try.prog w = .ok (.int .i64 0) w := by kernel_rfl
/-- the map of where each place came from. -/
def CameD (D : DataW Unit) (L : Met) : Prop := ∀ x : Nat, Maps.has D (.int .i64 (x : Int)) = decide (x ∈ keys L) ∧ (x ∈ keys L → D.atKey (.int .i64 (x : Int)) (.lit (.int .i64 0)) = .lit (.int .i64 (fromOf L x)))
def CameIs (w : World) (b : Nat) (L : Met) : Prop := ∃ D : DataW Unit, w.ownsMap Try.prog 3 (plainElem Try.prog 3) b L.length D ∧ CameD D L
set_option maxRecDepth 20000 in
theorem CameD.put {D : DataW Unit} {L : Met} {p : Nat} {f : Int} (h : CameD D L) (hD : IsMap D) (hp : ¬ p ∈ keys L) : CameD (D.put (.int .i64 (p : Int)) (.lit (.int .i64 f))) (L ++ [(p, f)]) := by
  intro x
  by_cases hxp : x = p
  · subst hxp
    rw [has_put_same hD (by simp [WideAt.IsKeyLit]), atKey_put_same hD (by simp [WideAt.IsKeyLit]), fromOf_new hp, keys_snoc]
    simp
  · have hne : (Lit.int .i64 (x : Int)) ≠ .int .i64 (p : Int) := by simp; omega
    rw [has_put_other hne, atKey_put_other hne, (h x).1, keys_snoc]
    refine ⟨by simp [hxp], fun hx => ?_⟩
    have hx' : x ∈ keys L := by simpa [hxp] using hx
    rw [(h x).2 hx', fromOf_old hx']
theorem CameIs.kept {w w' : World} {b : Nat} {L : Met} {row : Option Nat} (h : CameIs w b L) (hg : w.grownBy w' row) (hne : some b ≠ row) : CameIs w' b L := by
  obtain ⟨D, h1, h2⟩ := h
  exact ⟨D, h1.kept hg hne, h2⟩
theorem grown_below {w w' : World} (hb : Below w.heap.size w w') : w.grownBy w' none := ⟨hb.os, hb.tape, hb.output, hb.size, fun i hi _ => hb.block i hi⟩
def nvals (l : List Nat) : List Value := l.map fun x : Nat => .int .i64 (x : Int)
/-- HOW THINGS LIE WHILE ONE LOOKS: the graph's box, the function's box, the map, its box, the box of the line. -/
structure LookSt (w0 w : World) (s : Nat) (nv F : Value) (L : Met) (v : Value) : Prop where
  below : Below s w0 w
  size : s + 5 ≤ w.heap.size
  gn : w.cell? ⟨s, 2, none⟩ = some nv
  fi : w.cell? ⟨s + 1, 0, none⟩ = some F
  cm : w.cell? ⟨s + 3, 0, none⟩ = some (.map (some (s + 2)))
  mp : CameIs w (s + 2) L
  ln : w.cell? ⟨s + 4, 0, none⟩ = some v
  fz : w.frozen? ⟨s + 4, 0, none⟩ = false
  ow : w.ownsRow (s + 5) 3 1 v L.length (nvals (keys L))
theorem LookSt.later {w0 w w' : World} {s : Nat} {nv F : Value} {L : Met} {v : Value} (h : LookSt w0 w s nv F L v) (hb : Below w.heap.size w w') : LookSt w0 w' s nv F L v := by
  have hs := h.size
  exact ⟨h.below.trans (hb.mono (by omega)), Nat.le_trans hs hb.size, (hb.cell (p := ⟨s, 2, none⟩) (by show s < _; omega)).trans h.gn, (hb.cell (p := ⟨s + 1, 0, none⟩) (by show s + 1 < _; omega)).trans h.fi, (hb.cell (p := ⟨s + 3, 0, none⟩) (by show s + 3 < _; omega)).trans h.cm, h.mp.kept (grown_below hb) (by simp), (hb.cell (p := ⟨s + 4, 0, none⟩) (by show s + 4 < _; omega)).trans h.ln, (hb.frozen (p := ⟨s + 4, 0, none⟩) (by show s + 4 < _; omega)).trans h.fz, owns_later h.ow hb (Nat.le_refl _)⟩
/-- a place is met. -/
theorem LookSt.put {w0 w w1 w2 : World} {s : Nat} {nv F : Value} {L : Met} {v v' : Value} {D : DataW Unit} {p : Nat} {f : Int} {o : Obj} (h : LookSt w0 w s nv F L v) (hp : ¬ p ∈ keys L) (hD : CameD D L) (hI : IsMap D)
    (hm : w1.ownsMap Try.prog 3 (plainElem Try.prog 3) (s + 2) (L.length + 1) (D.put (.int .i64 (p : Int)) (.lit (.int .i64 f)))) (hg1 : w.grownBy w1 (some (s + 2))) (hg2 : (w1.alloc o).grownBy w2 v.ownBlock) (ho : w2.ownsRow (s + 5) 3 1 v' (L.length + 1) (nvals (keys L) ++ [.int .i64 (p : Int)])) :
    LookSt w0 (w2.setCell ⟨s + 4, 0, none⟩ v') s nv F (L ++ [(p, f)]) v' := by
  have hs := h.size
  have hs1 := hg1.size
  have hlt := h.ow.lt
  have hblk : ∀ i, i < s + 5 → i ≠ s + 2 → w2.heap[i]? = w.heap[i]? := fun i hi hne => by
    have e1 : w2.heap[i]? = (w1.alloc o).heap[i]? := hg2.block i (by simp; omega) (fun e => by have := (hlt i e.symm).1; omega)
    have e2 : (w1.alloc o).heap[i]? = w1.heap[i]? := ((Below.refl w1.heap.size w1).alloc (Nat.le_refl _) o).block i (by omega)
    exact e1.trans (e2.trans (hg1.block i (by omega) (fun e => hne (Option.some.inj e))))
  have hsz2 : s + 5 ≤ w2.heap.size := by have := hg2.size; simp at this; omega
  have hc : ∀ i j, i < s + 5 → i ≠ s + 2 → w2.cell? ⟨i, j, none⟩ = w.cell? ⟨i, j, none⟩ := fun i j hi hne => World.cell?_of_block (a := ⟨i, j, none⟩) (hblk i hi hne)
  have hfar : ∀ i j, i ≠ s + 4 → (w2.setCell ⟨s + 4, 0, none⟩ v').cell? ⟨i, j, none⟩ = w2.cell? ⟨i, j, none⟩ := fun i j hne => World.cell?_setCell_far _ _ _ _ (fun e => hne e.symm)
  have hm2 : w2.ownsMap Try.prog 3 (plainElem Try.prog 3) (s + 2) (L.length + 1) (D.put (.int .i64 (p : Int)) (.lit (.int .i64 f))) := by
    have := hm.kept (grown_below ((Below.refl w1.heap.size w1).alloc (Nat.le_refl _) o)) (by simp)
    exact this.kept hg2 (fun e => by have := (hlt (s + 2) e.symm).1; omega)
  refine ⟨?_, by simpa using hsz2, (hfar s 2 (by omega)).trans ((hc s 2 (by omega) (by omega)).trans h.gn), (hfar (s + 1) 0 (by omega)).trans ((hc (s + 1) 0 (by omega) (by omega)).trans h.fi), (hfar (s + 3) 0 (by omega)).trans ((hc (s + 3) 0 (by omega) (by omega)).trans h.cm), ⟨_, ?_, hD.put hI hp⟩, ?_, ?_, ?_⟩
  · refine Below.setCell ?_ (by show s ≤ s + 4; omega) _
    exact h.below.trans ⟨hg2.os.trans ((show (w1.alloc o).os = w1.os from rfl).trans hg1.os), hg2.tape.trans ((show (w1.alloc o).tape = w1.tape from rfl).trans hg1.tape), hg2.output.trans ((show (w1.alloc o).output = w1.output from rfl).trans hg1.output), by have := hg2.size; simp at this; omega, fun i hi => hblk i (by omega) (by omega)⟩
  · rw [List.length_append]; exact hm2.setCell (by simp) _
  · exact World.cell?_setCell_same _ _ _ (u := v) ((hc (s + 4) 0 (by omega) (by omega)).trans h.ln)
  · rw [World.frozen?_setCell]
    exact (World.frozen?_of_block (a := ⟨s + 4, 0, none⟩) (hblk (s + 4) (by omega) (by omega))).trans h.fz
  · rw [List.length_append, keys_snoc, nvals, List.map_append]
    exact owns_low ho (by show s + 4 < _; omega) _
/-- a function of places, handed in. -/
def FnB (w0 : World) (s n : Nat) (F : Value) (ins : Nat → Bool) : Prop := ∃ fn caps, F = .func (.func fn) #[] caps ∧ (∀ args w, (callFunc fn args).run Try.prog w = .ok (.enter fn args) w) ∧ ∀ w', Below s w0 w' → ∀ p : Nat, p < n → Calls Try.prog fn (#[.int .i64 (p : Int)] ++ caps) w' fun e w2 => e = .returned (.bool (ins p)) ∧ Below w'.heap.size w' w2

def NatsV (w : World) (v : Value) (l : List Nat) : Prop := ∃ ao cap, v = .slice ao l.length cap ∧ (l ≠ [] → ∃ b off, ao = some ⟨b, off, none⟩ ∧ b < w.heap.size ∧ ∀ i, i < l.length → w.cell? ⟨b, off + i, none⟩ = some (.int .i64 (l.getD i 0 : Int)))
theorem NatsV.below {w w' : World} {v : Value} {l : List Nat} (h : NatsV w v l) (hb : Below w.heap.size w w') : NatsV w' v l := by
  obtain ⟨ao, cap, rfl, h⟩ := h
  refine ⟨ao, cap, rfl, fun hne => ?_⟩
  obtain ⟨b, off, rfl, hlt, hat⟩ := h hne
  exact ⟨b, off, rfl, Nat.lt_of_lt_of_le hlt hb.size, fun i hi => (hb.cell (p := ⟨b, _, none⟩) hlt).trans (hat i hi)⟩
theorem NatsV.num {w : World} {bo : Option Addr} {bn bc : Nat} {l : List Nat} (h : NatsV w (.slice bo bn bc) l) {i : Nat} (hi : i < l.length) : ∃ b off, bo = some ⟨b, off, none⟩ ∧ b < w.heap.size ∧ w.cell? ⟨b, off + i, none⟩ = some (.int .i64 (l.getD i 0 : Int)) := by
  obtain ⟨ao, cap, hv, h⟩ := h
  injection hv with e1 e2 e3
  subst e1
  obtain ⟨b, off, e, hlt, hat⟩ := h (by rintro rfl; simp at hi)
  exact ⟨b, off, e, hlt, hat i hi⟩

set_option maxHeartbeats 3200000 in
set_option maxRecDepth 20000 in
/-- THE CONTRACT OF meet. -/
theorem meet_any (po : Option Addr) (pc : Nat) (ps : List Nat) (f : Int) (w0 w : World) (n : Nat) (nv : Value) (fn : FuncId) (caps : Array Value) (ins : Nat → Bool) (L : Met) (v : Value) (hn : n ≤ 20000) (hps : ∀ x ∈ ps, x < n) (hf : -1 ≤ f ∧ f ≤ 20000) (hpl : ps.length ≤ 140737488355328)
    (hP : NatsV w0 (.slice po ps.length pc) ps) (hF : FnB w0 w0.heap.size n (.func (.func fn) #[] caps) ins) (hL : ∀ k, k ≤ ps.length → (meetTo ins f L ps k).length ≤ n) (hS : LookSt w0 w w0.heap.size nv (.func (.func fn) #[] caps) L v) :
    Calls Try.prog 43 #[.slice po ps.length pc, .int .i64 f, .pointer (some ⟨w0.heap.size + 3, 0, none⟩), .pointer (some ⟨w0.heap.size + 1, 0, none⟩), .pointer (some ⟨w0.heap.size + 4, 0, none⟩)] w fun e w' => e = .returned (.tuple #[]) ∧ ∃ v', LookSt w0 w' w0.heap.size nv (.func (.func fn) #[] caps) (meetTo ins f L ps ps.length) v' := by
  obtain ⟨f', caps', e1, hen, hfn⟩ := hF
  injection e1 with e1 e2 e3
  injection e1 with e1
  subst e1 e3
  clear e2
  obtain ⟨m, hm⟩ : ∃ m, m = ps.length := ⟨_, rfl⟩
  have HM : Hid (m = ps.length) := hm
  have HP : Hid (NatsV w0 (.slice po m pc) ps) := by rw [hm]; exact hP
  have HFn : Hid (∀ w', Below w0.heap.size w0 w' → ∀ p : Nat, p < n → Calls Try.prog fn (#[.int .i64 (p : Int)] ++ caps) w' fun e w2 => e = .returned (.bool (ins p)) ∧ Below w'.heap.size w' w2) := hfn
  have HL : Hid (∀ k, k ≤ m → (meetTo ins f L ps k).length ≤ n) := by rw [hm]; exact hL
  have HPs : Hid (∀ k, k < m → ps.getD k 0 < n) := fun k hk => hps _ (by rw [List.getD_eq_getElem?_getD, List.getElem?_eq_getElem (by omega)]; exact List.getElem_mem _)
  have HSu : Hid (∀ k, k < m → meetTo ins f L ps (k + 1) = meetStep ins f (meetTo ins f L ps k) (ps.getD k 0)) := fun k hk => meetTo_succ (by omega)
  have HS0 : Hid (LookSt w0 w w0.heap.size nv (.func (.func fn) #[] caps) (meetTo ins f L ps 0) v) := hS
  rw [← hm] at hpl ⊢
  clear hm hP hfn hL hps hS
  generalize meetTo ins f L ps = MT at *
  obtain ⟨i0, hi, hz0, hz1, hz2⟩ := info_parts infoInt
  go_enter Try.func43, Try.ntmps43
  go_wp2_with fail
  go_loopw [13] (fun i wr => ∃ k : Nat, k ≤ m ∧ i = .int .i64 k ∧ Hid (∃ v', LookSt w0 wr w0.heap.size nv (.func (.func fn) #[] caps) (MT k) v')) (fun i _ => m - (intOf i).toNat)
  case atStart => exact ⟨0, Nat.zero_le _, rfl, v, HS0.out⟩
  case round =>
    obtain ⟨k, hk, rfl, HSt⟩ := hrel
    obtain ⟨v1, hst⟩ := HSt.out
    by_cases hlt : k < m
    · obtain ⟨pb, poff, rfl, hpb, hcp0⟩ := HP.out.num (i := k) (by rw [← HM.out]; exact hlt)
      have hcp := (hst.below.cell (p := ⟨pb, poff + k, none⟩) hpb).trans hcp0
      have hpn := HPs.out k hlt
      have hll := HL.out k hk
      have hsu := HSu.out k hlt
      generalize ps.getD k 0 = p at *
      obtain ⟨D, hown, hcd⟩ := hst.mp
      have hk1 := keyG p (by omega)
      have hhas := (hcd p).1
      have hcm := hst.cm
      have hfi := hst.fi
      by_cases hin : p ∈ keys (MT k)
      · have HE : Hid (MT (k + 1) = MT k) := hsu.trans (meetStep_no (.inl hin))
        rw [decide_eq_true hin] at hhas
        clear hcp0 hcd hsu hin
        go_wp2_with (at_lookup; refine wpList_lookup_own_ok_int _ rfl _ _ 61 rfl 3 3 .i64 keyInt Try.underlying61 Try.underlying3 (zeroInt _) (w0.heap.size + 2) _ D rfl hown _ _ rfl hk1 ?_; intro c hat hwc; rw [hhas]; clear hat hwc)
        go_roundw
        case rel => exact ⟨k + 1, hlt, by go_num, by rw [HE.out]; exact HSt⟩
        case measure => simp [intOf]; omega
      · rw [decide_eq_false hin] at hhas
        have hca := HFn.out wr hst.below p hpn
        cases hip : ins p with
        | false =>
          rw [hip] at hca
          have HE : Hid (MT (k + 1) = MT k) := hsu.trans (meetStep_no (.inr hip))
          have HLa : Hid (∀ w4, Below wr.heap.size wr w4 → LookSt w0 w4 w0.heap.size nv (.func (.func fn) #[] caps) (MT k) v1) := fun w4 hb => hst.later hb
          clear hcp0 hcd hsu hin hip hst HSt
          go_wp2_with (first | (at_lookup; refine wpList_lookup_own_ok_int _ rfl _ _ 61 rfl 3 3 .i64 keyInt Try.underlying61 Try.underlying3 (zeroInt _) (w0.heap.size + 2) _ D rfl hown _ _ rfl hk1 ?_; intro c hat hwc; rw [hhas]; clear hat hwc) | (refine hca.mono ?_; rintro e w4 ⟨rfl, hb4⟩))
          go_roundw
          case rel => exact ⟨k + 1, hlt, by go_num, v1, by rw [HE.out]; exact HLa.out w4 hb4⟩
          case measure => simp [intOf]; omega
        | true =>
          rw [hip] at hca
          have HE : Hid (MT (k + 1) = MT k ++ [(p, f)]) := hsu.trans (meetStep_yes hin hip)
          have HLa : Hid (∀ w4, Below wr.heap.size wr w4 → LookSt w0 w4 w0.heap.size nv (.func (.func fn) #[] caps) (MT k) v1) := fun w4 hb => hst.later hb
          have HCd : Hid (CameD D (MT k)) := hcd
          have HPut : Hid (∀ (w4 w5 w6 : World) (v' : Value) (o : Obj), Below wr.heap.size wr w4 → w5.ownsMap Try.prog 3 (plainElem Try.prog 3) (w0.heap.size + 2) ((MT k).length + 1) (D.put (.int .i64 (p : Int)) (.lit (.int .i64 f))) → w4.grownBy w5 (some (w0.heap.size + 2)) → (w5.alloc o).grownBy w6 v1.ownBlock → w6.ownsRow (w0.heap.size + 5) 3 1 v' ((MT k).length + 1) (nvals (keys (MT k)) ++ [.int .i64 (p : Int)]) → LookSt w0 (w6.setCell ⟨w0.heap.size + 4, 0, none⟩ v') w0.heap.size nv (.func (.func fn) #[] caps) (MT k ++ [(p, f)]) v') := fun w4 w5 w6 v' o hb h1 h2 h3 h4 => (hst.later hb).put hin hcd hown.isMap h1 h2 h3 h4
          have hkm : (MT k).length < maxLen := by unfold maxLen; omega
          have h63 : (MT k).length + 1 ≤ maxLen := by unfold maxLen; omega
          have hkb : ((MT k).length + 1) * 8 ≤ 140737488355328 := by omega
          have hwf : (Lit.int .i64 f).wf = true := WalkArith.wf_i64 (by omega)
          obtain ⟨lo, lc, rfl⟩ := owns_slice hst.ow
          have hst' := (show Hid _ from hst)
          have hszr := hst.size
          obtain ⟨q, hq⟩ : ∃ q, q = (MT k).length := ⟨_, rfl⟩
          have HQ : Hid (q = (MT k).length) := hq
          rw [← hq] at hkm h63 hkb hll hown HPut HLa hst'
          clear hcp0 hcd hsu hin hip hst HSt hq
          go_wp2_with (first
            | (at_lookup; refine wpList_lookup_own_ok_int _ rfl _ _ 61 rfl 3 3 .i64 keyInt Try.underlying61 Try.underlying3 (zeroInt _) (w0.heap.size + 2) _ D rfl hown _ _ rfl hk1 ?_; intro c hat hwc; rw [hhas]; clear hat hwc)
            | (refine hca.mono ?_; rintro e w4 ⟨rfl, hb4⟩; have hst4 := HLa.out w4 hb4; have hcm4 := hst4.cm; have hln4 := hst4.ln; have hfz4 := hst4.fz; have hsz4 := hst4.size; have hlt4 := hst4.ow.lt; have how4 := hst4.ow; rw [← HQ.out] at how4; have hown4 := hown.kept (grown_below hb4) (by simp); clear hst4 hca)
            | (at_mapUpdate; refine wpList_mapUpdate_own _ rfl _ _ _ 61 rfl 3 3 keyInt Try.underlying61 _ (w0.heap.size + 2) q D rfl hown4 hkm _ _ _ rfl rfl hk1 _ [] (plainElem_int Try.underlying3 hwf) ?_; intro w5 hown5 hg5; have hln5 : w5.cell? ⟨w0.heap.size + 4, 0, none⟩ = some (.slice lo q lc) := ((World.cell?_of_block (a := ⟨w0.heap.size + 4, 0, none⟩) (hg5.block (w0.heap.size + 4) (by omega) (by simp))).trans hln4); have hfz5 : w5.frozen? ⟨w0.heap.size + 4, 0, none⟩ = false := ((World.frozen?_of_block (a := ⟨w0.heap.size + 4, 0, none⟩) (hg5.block (w0.heap.size + 4) (by omega) (by simp))).trans hfz4); have how5 := how4.kept hg5 (.inr (fun e => by have := (hlt4 (w0.heap.size + 2) e).1; omega)); have how5' := fun o => how5.alloc o; have hsz5 := hg5.size; have hbase : ∀ o, w0.heap.size + 5 ≤ (w5.alloc o).heap.size := (fun o => by simp; omega))
            | (at_builtin; refine wpList_append_own _ rfl (.tmp 33) (.tmp 35) 24 rfl (w0.heap.size + 5) 3 i0 (.int .i64 0) 1 8 Try.underlying24 hi hz0 hz1 hz2 rfl (by decide) (.slice lo q lc) q _ rfl (how5' _) ⟨w5.heap.size, 0, none⟩ 1 1 [.int .i64 p] rfl rfl (cell_one_new _ _ _) (by intro u hu; simp at hu; subst hu; rfl) h63 hkb (hbase _) ?_; intro v' w6 hown6 hg6 _; obtain ⟨lo', lc', rfl⟩ := owns_slice hown6; have hblk6 : w6.heap[w0.heap.size + 4]? = w5.heap[w0.heap.size + 4]? := ((hg6.block (w0.heap.size + 4) (by simp; omega) (fun e => by have := (hlt4 (w0.heap.size + 4) e.symm).1; omega)).trans (((Below.refl w5.heap.size w5).alloc (Nat.le_refl _) _).block _ (by omega))); have hln6 : w6.cell? ⟨w0.heap.size + 4, 0, none⟩ = some (.slice lo q lc) := ((World.cell?_of_block (a := ⟨w0.heap.size + 4, 0, none⟩) hblk6).trans hln5); have hfz6 : w6.frozen? ⟨w0.heap.size + 4, 0, none⟩ = false := ((World.frozen?_of_block (a := ⟨w0.heap.size + 4, 0, none⟩) hblk6).trans hfz5)))
          have HN := (show Hid _ from HPut.out w4 w5 w6 (.slice lo' (q + 1) lc') _ hb4 hown5 hg5 hg6 hown6)
          go_roundw
          case rel => exact ⟨k + 1, hlt, by go_num, _, by rw [HE.out]; exact HN.out⟩
          case measure => simp [intOf]; omega
    · obtain rfl : k = m := by omega
      go_wp2_with fail
      go_end0
      exact ⟨rfl, HSt.out⟩
end Go.Proofs.Ytknneajaklcjdaa
