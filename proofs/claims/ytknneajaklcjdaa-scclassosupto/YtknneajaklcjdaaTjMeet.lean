/-
  The contract of (*walk).meet.
-/
import Derived.Test.YtknneajaklcjdaaTarjanW
import Derived.Deep.Cut
import Derived.Deep.CutBlock
import Derived.Deep.CutRange
import Derived.Deep.DeepCutAuto
namespace Go.Proofs.Ytknneajaklcjdaa
open Go.ChangeShapes Go.WideShapes Go.ChangeAt Go.RowKit Go.Deep
open Terms

set_option maxHeartbeats 3200000 in
set_option maxRecDepth 20000 in
/-- THE CONTRACT OF meet. -/
theorem tjmeet_any (w0 w : World) (A : TA) (nv : Value) (n : Nat) (dv ov : Value) (dl ol : List Nat) (wh lo go : Nat → Nat) (pt : Nat → Int) (met p : Nat) (hA : TAOk A) (hp : p < n) (hm : met < 20000) (hdl : dl.length ≤ 20000) (hol : ol.length ≤ 20000) (h : TjW w0 w A nv n dv ov dl ol wh lo go pt met) :
    Calls Try.prog 35 #[.pointer (some ⟨A.b, 0, none⟩), .int .i64 (p : Int)] w fun e w' => e = .returned (.tuple #[]) ∧ Hid (∃ dv' ov', TjW w0 w' A nv n dv' ov' (dl ++ [p]) (ol ++ [p]) (upd wh p (met + 1)) (upd lo p (met + 1)) go pt (met + 1)) := by
  obtain ⟨i0, hi, hz0, hz1, hz2⟩ := info_parts infoInt
  have HA : Hid (TAOk A) := hA
  have H0 : Hid (TjW w0 w A nv n dv ov dl ol wh lo go pt met) := h
  have H1 : Hid (TjW w0 (w.setCell ⟨A.b, 10, none⟩ (.int .i64 ((met + 1 : Nat) : Int))) A nv n dv ov dl ol wh lo go pt (met + 1)) := h.setMet hA (met + 1)
  have e1 : ((met + 1 : Nat) : Int) = (met : Int) + 1 := by omega
  rw [e1] at H1
  have k10 := h.cm
  have kf := h.fz 10
  clear h e1
  go_enter Try.func35, Try.ntmps35
  go_wp2_with fail
  generalize w.setCell ⟨A.b, 10, none⟩ (.int .i64 ((met : Int) + 1)) = w1 at H1 ⊢
  have H2 : Hid (TjW w0 (w1.setCell ⟨A.bw, p, none⟩ (.int .i64 ((met + 1 : Nat) : Int))).drew A nv n dv ov dl ol (upd wh p (met + 1)) lo go pt (met + 1)) := (H1.out.setW hA p (met + 1)).drew
  have e1 : ((met + 1 : Nat) : Int) = (met : Int) + 1 := by omega
  rw [e1] at H2
  have k7 := H1.out.cw
  have k10 := H1.out.cm
  rw [e1] at k10
  have r1 := H1.out.rw.cell hp
  have r2 := H1.out.rw.frozen p
  generalize natRow wh p = old1 at r1
  clear kf
  go_region
  go_wp2_with fail
  clear k7 k10 r1 r2 H1
  generalize (w1.setCell ⟨A.bw, p, none⟩ (.int .i64 ((met : Int) + 1))).drew = w2 at H2 ⊢
  have H3 : Hid (TjW w0 (w2.setCell ⟨A.bl, p, none⟩ (.int .i64 ((met + 1 : Nat) : Int))).drew A nv n dv ov dl ol (upd wh p (met + 1)) (upd lo p (met + 1)) go pt (met + 1)) := (H2.out.setL hA p (met + 1)).drew
  rw [e1] at H3
  have k8 := H2.out.cl
  have k10 := H2.out.cm
  rw [e1] at k10
  have r1 := H2.out.rl.cell hp
  have r2 := H2.out.rl.frozen p
  generalize natRow lo p = old2 at r1
  go_region
  clear k8 k10 r1 r2 H2 e1
  generalize (w2.setCell ⟨A.bl, p, none⟩ (.int .i64 ((met : Int) + 1))).drew = w3 at H3 ⊢
  obtain ⟨ao, dc, rfl⟩ := owns_slice H3.out.od
  obtain ⟨oo, oc, rfl⟩ := owns_slice H3.out.oo
  have k5 := H3.out.dn
  have hod := fun o => H3.out.od.alloc o
  have hsz := H3.out.size
  have hbase : ∀ o, A.t ≤ (w3.alloc o).heap.size := fun o => by simp; omega
  have h63 : dl.length + 1 ≤ maxLen := by unfold maxLen; omega
  have hkb : (dl.length + 1) * 8 ≤ 140737488355328 := by omega
  have HRd : Hid (∀ k, (Value.slice ao dl.length dc).ownBlock = some k → A.t ≤ k) := fun k hk => (H3.out.od.lt k hk).1
  have HRo : Hid (∀ k, (Value.slice oo ol.length oc).ownBlock = some k → A.t ≤ k) := fun k hk => (H3.out.oo.lt k hk).1
  go_upto_region 4 with (at_builtin; refine wpList_append_lies _ rfl (.tmp 35) (.tmp 37) 24 rfl A.t 3 i0 (.int .i64 0) 1 8 Try.underlying24 hi hz0 hz1 hz2 rfl (by decide) (.slice ao dl.length dc) dl.length _ rfl (hod _) ⟨w3.heap.size, 0, none⟩ 1 1 [.int .i64 (p : Int)] rfl rfl (cell_one_new _ _ _) (by intro u hu; simp at hu; subst hu; rfl) (by decide) h63 hkb (hbase _) _ rfl ?_; intro g4 c4 w4 hown4 hgrow4 hor4 _; obtain ⟨k45, kf4⟩ := H3.out.grew hA hgrow4 HRd.out 5; rw [k5] at k45)
  have H4 : Hid (TjW w0 (w4.setCell ⟨A.b, 5, none⟩ (.slice (some ⟨g4, 0, none⟩) (dl.length + 1) c4)) A nv n (.slice (some ⟨g4, 0, none⟩) (dl.length + 1) c4) (.slice oo ol.length oc) (dl ++ [p]) ol (upd wh p (met + 1)) (upd lo p (met + 1)) go pt (met + 1)) := H3.out.pushDown hA hgrow4 hown4 (fun g hg => (by injection hg with hg; subst hg; exact hor4))
  clear hown4 hgrow4 hor4 k45 kf4 hod hbase h63 hkb k5 hsz H3 H0
  generalize w4.setCell ⟨A.b, 5, none⟩ (.slice (some ⟨g4, 0, none⟩) (dl.length + 1) c4) = w5 at H4 ⊢
  have k56 := H4.out.on
  have hod5 := fun o => H4.out.oo.alloc o
  have hsz5 := H4.out.size
  have hbase5 : ∀ o, A.t ≤ (w5.alloc o).heap.size := fun o => by rw [World.size_alloc]; omega
  have h632 : ol.length + 1 ≤ maxLen := by unfold maxLen; omega
  have hkb2 : (ol.length + 1) * 8 ≤ 140737488355328 := by omega
  go_wp2_with (at_builtin; refine wpList_append_lies _ rfl (.tmp 45) (.tmp 47) 24 rfl A.t 3 i0 (.int .i64 0) 1 8 Try.underlying24 hi hz0 hz1 hz2 rfl (by decide) (.slice oo ol.length oc) ol.length _ rfl (hod5 _) ⟨w5.heap.size, 0, none⟩ 1 1 [.int .i64 (p : Int)] rfl rfl (cell_one_new _ _ _) (by intro u hu; simp at hu; subst hu; rfl) (by decide) h632 hkb2 (hbase5 _) _ rfl ?_; intro g6 c6 w6 hown6 hgrow6 hor6 _; obtain ⟨k66, kf6⟩ := H4.out.grew hA hgrow6 HRo.out 6; rw [k56] at k66)
  go_end0
  have H6 := H4.out.pushOpen hA hgrow6 hown6 (fun g hg => by injection hg with hg; subst hg; exact hor6)
  exact ⟨rfl, _, _, H6⟩
end Go.Proofs.Ytknneajaklcjdaa
