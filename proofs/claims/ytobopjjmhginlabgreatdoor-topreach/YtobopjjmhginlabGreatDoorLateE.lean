/-
  Joined out of KeepLetter, Letters, Concat, WCheck, WLaw, WLaw2, WSettle, WFill0, BackBy, WFill1, WFill, WMom, BoolsOf, LettersOf, KeepWord, KeepHolds, KTask, TtNot, BaM, EyM, PEx, EyWalk, StepReach2, StepReach3, in their order: a claim bears at most so many files.
-/
import Derived.Test.YtobopjjmhginlabGreatDoorKeepStates
import Derived.Test.YtobopjjmhginlabGreatDoorLateB
import Derived.Test.YtobopjjmhginlabGreatDoorLateD
import Derived.Test.YtobopjjmhginlabGreatDoorBools
import Derived.Lib.AppendZeros
import Derived.Test.YtobopjjmhginlabGreatDoorLateA
import Derived.Deep.RegionHeld3
import Derived.Laws.EntriesVeiled
import Derived.Test.YtobopjjmhginlabGreatDoorRow
import Derived.Lib.SmallJoins
import Derived.Test.YtobopjjmhginlabGreatDoorGrown3
import Derived.Test.YtobopjjmhginlabGreatDoorKeepDesign
import Derived.Deep.AppendLies
namespace Go.Proofs.YtobopjjmhginlabGreatDoor
open Go.ChangeShapes Go.WideShapes Go.ChangeAt Go.RowKit Go.Deep
open Terms Tm
set_option maxHeartbeats 6400000
set_option maxRecDepth 20000
def tp0 : Tm := .bi 7 0 (.leaf 2 0) (.leaf 1 1)
def tp1 : Tm := .bi 7 0 (.leaf 2 0) (.leaf 2 1)
def tp2 : Tm := .bi 6 0 (.leaf 2 0) (.leaf 2 1)
def propsL : List (List (Int × Int)) := [[(7, 0), (2, 0), (1, 1)], [(7, 0), (2, 0), (2, 1)], [(6, 0), (2, 0), (2, 1)]]
theorem tp0_good : tp0.Good 2 := ⟨by decide, by decide, rfl, .inr (.inl ⟨rfl, by decide, by decide⟩), .inl ⟨rfl, by decide, by decide⟩⟩
theorem tp1_good : tp1.Good 2 := ⟨by decide, by decide, rfl, .inr (.inl ⟨rfl, by decide, by decide⟩), .inr (.inl ⟨rfl, by decide, by decide⟩)⟩
theorem tp2_good : tp2.Good 2 := ⟨by decide, by decide, rfl, .inr (.inl ⟨rfl, by decide, by decide⟩), .inr (.inl ⟨rfl, by decide, by decide⟩)⟩
theorem prop_code {T : Tm} (hg : T.Good 2) (h60 : T.size <= 60) (ht : T.typed = true) (hk : mkT T.kind = true) : kcode 2 T.ops true = 0 := by
  rw [kcode_tree (by decide) (by decide) hg h60 ht, if_pos hk]
theorem props_code {m : Mo} (hm : mcode m = 0) (hv : m.vars.length = 2) : pcode m propsL = 0 := by
  unfold pcode; rw [if_pos hm, if_neg (by decide)]
  refine firstOf_none fun j hj => ?_
  rw [hv]; have : j = 0 \/ j = 1 \/ j = 2 := by simp [propsL] at hj; omega
  rcases this with rfl | rfl | rfl
  · exact prop_code tp0_good (by decide) (by decide) (by decide)
  · exact prop_code tp1_good (by decide) (by decide) (by decide)
  · exact prop_code tp2_good (by decide) (by decide) (by decide)
section
variable {a b : Vr} {w : World} {va vr pv : Value}
end
theorem ops_one (w : World) (k v : Int) : OpsV (w.alloc (.cells #[.int .i64 k, .int .i64 v] 33)) (.slice (some ⟨w.heap.size, 0, none⟩) 1 1) [(k, v)] := by
  refine ⟨_, 1, rfl, ⟨Nat.le_refl _, fun h => by cases h⟩, fun _ => ⟨w.heap.size, 0, rfl, by simp, fun i hi => ?_⟩⟩
  obtain rfl : i = 0 := by simpa using hi
  constructor <;> simp [go_sem]
theorem OpsV.al {w : World} {v : Value} {l : List (Int × Int)} (h : OpsV w v l) (o : Obj) : OpsV (w.alloc o) v l := h.below ((Below.refl _ _).alloc (Nat.le_refl _) o)
theorem propsFn_any (w : World) :
    Calls Tryz.prog 18 #[] w fun e w' => ∃ pb, e = .returned (.slice (some ⟨pb, 0, none⟩) 3 3) /\ Below w.heap.size w w' /\ TermsV w' (.slice (some ⟨pb, 0, none⟩) 3 3) propsL := by
  have tk1 := True.intro; have tk2 := True.intro; have tk3 := True.intro; have hA : ∀ o1 o2 o3 o4, Below w.heap.size w ((((w.alloc o1).alloc o2).alloc o3).alloc o4) := fun o1 o2 o3 o4 => ((((Below.refl _ _).alloc (Nat.le_refl _) _).alloc (by simp) _).alloc (by simp; omega) _).alloc (by simp; omega) _
  have hX : ∀ o2 o3 o4, OpsV ((((w.alloc (.cells #[.int .i64 2, .int .i64 0] 33)).alloc o2).alloc o3).alloc o4) (.slice (some ⟨w.heap.size, 0, none⟩) 1 1) [(2, 0)] := fun o2 o3 o4 => (((ops_one w 2 0).al o2).al o3).al o4
  have hY : ∀ o1 o3 o4, OpsV ((((w.alloc o1).alloc (.cells #[.int .i64 2, .int .i64 1] 33)).alloc o3).alloc o4) (.slice (some ⟨w.heap.size + 1, 0, none⟩) 1 1) [(2, 1)] := fun o1 o3 o4 => by
    have := ((ops_one (w.alloc o1) 2 1).al o3).al o4; rw [World.size_alloc] at this; exact this
  have hN : ∀ o1 o2 o4, OpsV ((((w.alloc o1).alloc o2).alloc (.cells #[.int .i64 1, .int .i64 1] 33)).alloc o4) (.slice (some ⟨w.heap.size + 1 + 1, 0, none⟩) 1 1) [(1, 1)] := fun o1 o2 o4 => by
    have := (ops_one ((w.alloc o1).alloc o2) 1 1).al o4; rw [World.size_alloc, World.size_alloc] at this; exact this
  go_enter Tryz.func18, Tryz.ntmps18
  go_wp2_with (first | (clear tk1; go_at_call 16; refine (joined2 7 _ (.slice (some ⟨w.heap.size, 0, none⟩) 1 1) (.slice (some ⟨w.heap.size + 1 + 1, 0, none⟩) 1 1) [(2, 0)] [(1, 1)] _ (by simp [go_sem]) (by simp [go_sem]) (by simp) (by simp) (by simp) (by simp) (hX _ _ _) (hN _ _ _)).mono ?_; rintro e w5 ⟨a1, c1, rfl, hb5, hp1⟩; have hx5 := (hX _ _ _).below hb5; have hy5 := (hY _ _ _).below hb5; have hbw5 := (hA _ _ _ _).trans (hb5.mono (hA _ _ _ _).size)) | (clear tk2; go_at_call 16; refine (joined2 7 _ (.slice (some ⟨w.heap.size, 0, none⟩) 1 1) (.slice (some ⟨w.heap.size + 1, 0, none⟩) 1 1) [(2, 0)] [(2, 1)] _ (by simp [go_sem]) (by simp [go_sem]) (by simp) (by simp) (by simp) (by simp) (hx5.al _) (hy5.al _)).mono ?_; rintro e w6 ⟨a2, c2, rfl, hb6, hp2⟩; have hx6 := (hx5.al _).below hb6; have hy6 := (hy5.al _).below hb6; have hq6 := (hp1.al _).below hb6) | (clear tk3; go_at_call 16; refine (joined2 6 _ (.slice (some ⟨w.heap.size, 0, none⟩) 1 1) (.slice (some ⟨w.heap.size + 1, 0, none⟩) 1 1) [(2, 0)] [(2, 1)] _ (by simp [go_sem]) (by simp [go_sem]) (by simp) (by simp) (by simp) (by simp) (hx6.al _) (hy6.al _)).mono ?_; rintro e w7 ⟨a3, c3, rfl, hb7, hp3⟩; have hq7 := (hq6.al _).below hb7; have hr7 := (hp2.al _).below hb7))
  go_ret
  have h6 : Below w.heap.size w w6 := (hbw5.alloc hbw5.size _).trans (hb6.mono (hbw5.alloc hbw5.size _).size); have h7 : Below w.heap.size w w7 := (h6.alloc h6.size _).trans (hb7.mono (h6.alloc h6.size _).size); refine ⟨w7.heap.size, rfl, h7.alloc h7.size _, _, 3, rfl, fun _ => ⟨w7.heap.size, 0, rfl, by simp, fun i hi => ?_⟩⟩
  have : i = 0 \/ i = 1 \/ i = 2 := by simp [propsL] at hi; omega
  rcases this with rfl | rfl | rfl
  · exact ⟨_, by simp [go_sem], hq7.al _⟩
  · exact ⟨_, by simp [go_sem], hr7.al _⟩
  · exact ⟨_, by simp [go_sem], hp3.al _⟩
end Go.Proofs.YtobopjjmhginlabGreatDoor
namespace Go.Proofs.YtobopjjmhginlabGreatDoor
open Go.ChangeShapes Go.WideShapes Go.ChangeAt Go.RowKit Go.Deep
open Terms
set_option maxHeartbeats 6400000
set_option maxRecDepth 20000
end Go.Proofs.YtobopjjmhginlabGreatDoor
namespace Go.Proofs.YtobopjjmhginlabGreatDoor
open Go.ChangeShapes Go.WideShapes Go.ChangeAt Go.RowKit Go.Deep Go.Shelf
open Terms
set_option maxHeartbeats 6400000
set_option maxRecDepth 20000
attribute [local go_sem] Oper.semAt_some
end Go.Proofs.YtobopjjmhginlabGreatDoor
namespace Go.Proofs.YtobopjjmhginlabGreatDoor
open Go.ChangeShapes Go.WideShapes Go.ChangeAt Go.RowKit Go.Deep Go.Shelf
open Terms
set_option maxHeartbeats 6400000
set_option maxRecDepth 20000
attribute [local go_sem] Oper.semAt_some
end Go.Proofs.YtobopjjmhginlabGreatDoor
namespace Go.Proofs.YtobopjjmhginlabGreatDoor
open Go.ChangeShapes Go.WideShapes Go.ChangeAt Go.RowKit Go.Deep
open Terms
set_option maxHeartbeats 6400000
set_option maxRecDepth 20000
end Go.Proofs.YtobopjjmhginlabGreatDoor
namespace Go.Proofs.YtobopjjmhginlabGreatDoor
open Go.ChangeShapes Go.WideShapes Go.ChangeAt Go.RowKit Go.Deep Go.Joins
open Terms
set_option maxHeartbeats 6400000
set_option maxRecDepth 20000
section
variable {H : Type} {enc : TypeId × Value -> H} {W : World}
end
end Go.Proofs.YtobopjjmhginlabGreatDoor
namespace Go.Proofs.YtobopjjmhginlabGreatDoor
open Go.ChangeShapes Go.WideShapes Go.ChangeAt Go.RowKit Go.Deep
open Terms
set_option maxHeartbeats 6400000
set_option maxRecDepth 20000
end Go.Proofs.YtobopjjmhginlabGreatDoor
namespace Go.Proofs.YtobopjjmhginlabGreatDoor
open Go.ChangeShapes Go.WideShapes Go.ChangeAt Go.RowKit Go.Deep Go.Joins
open Terms
set_option maxHeartbeats 6400000
set_option maxRecDepth 20000
theorem Raws.up {w w' : World} {v : Value} {rs : List (Int × Int)} (h : Raws w w.heap.size v rs) (hb : Below w.heap.size w w') : Raws w' w'.heap.size v rs := by
  obtain ⟨⟨ao, cap, hv, h1⟩, h2, h3⟩ := h; refine ⟨⟨ao, cap, hv, fun hne => ?_⟩, h2, h3⟩
  obtain ⟨b, off, ha, hlt, hat⟩ := h1 hne; exact ⟨b, off, ha, Nat.lt_of_lt_of_le hlt hb.size, hat.below hb hlt⟩
section
variable {H : Type} {enc : TypeId × Value -> H} {W : World}
end
end Go.Proofs.YtobopjjmhginlabGreatDoor
namespace Go.Proofs.YtobopjjmhginlabGreatDoor
open Go.ChangeShapes Go.WideShapes Go.ChangeAt Go.RowKit Go.Deep
open Terms Tm
set_option maxHeartbeats 6400000
set_option maxRecDepth 20000
theorem rcode_guard {r : Ru} (h : rcode 2 r = 0) : r.guard ≠ [] := by
  intro e
  have hx : ∀ t, xcode 2 [] t ≠ 0 := fun t => by
    unfold xcode; rw [if_neg (by decide)]
    have : endsCode (([] : List (Int × Int)).map Prod.fst) ≠ 0 := fun h0 => (ends_ne h0).1 rfl
    rw [if_pos this]; exact this
  unfold rcode at h; rw [e] at h
  have hk : kcode 2 [] true ≠ 0 := by
    unfold kcode; rw [if_neg (hx _)]; exact hx _
  split at h
  · exact absurd h (by decide)
  · exact hk h
structure NilTo (g : Nat) (w w' : World) : Prop where
  size : w.heap.size <= w'.heap.size
  nil : ∀ i v, w.cell? ⟨g, i, none⟩ = some v -> v = .slice none 0 0
  block : ∀ b, b ≠ g -> w'.heap[b]? = w.heap[b]?
theorem NilTo.ne {g : Nat} {w w' : World} (h : NilTo g w w') {b i : Nat} {v : Value} (hc : w.cell? ⟨b, i, none⟩ = some v) (hv : v ≠ .slice none 0 0) : b ≠ g := by
  rintro rfl
  exact hv (h.nil i v hc)
theorem NilTo.cell {g : Nat} {w w' : World} (h : NilTo g w w') {b : Nat} (hb : b ≠ g) (i : Nat) : w'.cell? ⟨b, i, none⟩ = w.cell? ⟨b, i, none⟩ := World.cell?_of_block (h.block b hb)
theorem OpsV.nilTo {g : Nat} {w w' : World} {v : Value} {l : List (Int × Int)} (h : OpsV w v l) (hn : NilTo g w w') : OpsV w' v l := by
  obtain ⟨ao, cap, rfl, h0, h⟩ := h; refine ⟨ao, cap, rfl, h0, fun hne => ?_⟩
  obtain ⟨b, off, rfl, hlt, hat⟩ := h hne; refine ⟨b, off, rfl, Nat.lt_of_lt_of_le hlt hn.size, fun i hi => ?_⟩
  have hb := hn.ne (hat i hi).1 (by simp)
  exact ⟨(hn.cell hb _).trans (hat i hi).1, (hn.cell hb _).trans (hat i hi).2⟩
theorem VarsV.nilTo {g : Nat} {w w' : World} {v : Value} {l : List Vr} (h : VarsV w v l) (hn : NilTo g w w') : VarsV w' v l := SlV.imp h hn.size fun b off i _ _ hi => by
  obtain ⟨h1, h2, h3, h4⟩ := hi; have hb := hn.ne h2 (by simp)
  exact ⟨(hn.cell hb _).trans h1, (hn.cell hb _).trans h2, (hn.cell hb _).trans h3, (hn.cell hb _).trans h4⟩
theorem SetsV.nilTo {g : Nat} {w w' : World} {v : Value} {l : List St} (h : SetsV w v l) (hn : NilTo g w w') : SetsV w' v l := SlV.imp h hn.size fun b off i _ _ hi => by
  obtain ⟨h1, u, h2, h3⟩ := hi; have hb := hn.ne h1 (by simp)
  exact ⟨(hn.cell hb _).trans h1, u, (hn.cell hb _).trans h2, h3.nilTo hn⟩
theorem RulesV.nilTo {g : Nat} {w w' : World} {v : Value} {l : List Ru} (h : RulesV w v l) (hg : ∀ j, j < l.length -> (l.getD j ru0).guard ≠ []) (hn : NilTo g w w') : RulesV w' v l := SlV.imp h hn.size fun b off i _ hi hx => by
  obtain ⟨⟨u, h1, h2⟩, u', h3, h4⟩ := hx
  have hb := hn.ne h1 (by
    obtain ⟨ao, cap, rfl, ⟨_, h0⟩, _⟩ := h2; intro e
    injection e with e _ _
    exact hg i hi (h0 e).2)
  exact ⟨⟨u, (hn.cell hb _).trans h1, h2.nilTo hn⟩, u', (hn.cell hb _).trans h3, h4.nilTo hn⟩
theorem TermsV.nilTo {g : Nat} {w w' : World} {v : Value} {ts : List (List (Int × Int))} (h : TermsV w v ts) (hg : ∀ j, j < ts.length -> ts.getD j [] ≠ []) (hn : NilTo g w w') : TermsV w' v ts := by
  obtain ⟨ao, cap, rfl, h⟩ := h; refine ⟨ao, cap, rfl, fun hne => ?_⟩
  obtain ⟨b, off, rfl, hlt, hat⟩ := h hne; refine ⟨b, off, rfl, Nat.lt_of_lt_of_le hlt hn.size, fun i hi => ?_⟩
  obtain ⟨u, h1, h2⟩ := hat i hi
  have hb := hn.ne h1 (by
    obtain ⟨ao, cap, rfl, ⟨_, h0⟩, _⟩ := h2; intro e
    injection e with e _ _
    exact hg i hi (h0 e).2)
  exact ⟨u, (hn.cell hb _).trans h1, h2.nilTo hn⟩
structure KTaskOk (m : Mo) (l : List (Int × Int)) (mm : Nat) : Prop where
  mo : mcode m = 0
  vars : m.vars.length = 2
  fo : ∃ T, FOk mm l T
  len : l.length <= 59
  many : mm <= 6
theorem KTaskOk.code {m : Mo} {l : List (Int × Int)} {mm : Nat} (h : KTaskOk m l mm) : tkcode m propsL l = 0 := by
  obtain ⟨T, hT⟩ := h.fo; unfold tkcode; rw [props_code h.mo h.vars, if_neg (by simp)]
  exact hT.code (by have := h.len; omega) h.many
theorem taskFn_any (c0 c1 c2 c3 c4 c5 c6 : Value) (a b : Vr) (rawv : Value) (rs : List (Int × Int)) (tempo : Nat) (w : World) (hG : GV a b) (ht : tempo <= 6) (hR : Raws w w.heap.size rawv rs)
    (hmd : ∀ w', Below w.heap.size w w' -> Calls Tryz.prog 17 #[.agg #[c0, c1, c2, c3, c4, c5, c6]] w' fun e w2 => ∃ va vr, e = .returned (.agg #[va, vr]) /\ Below w'.heap.size w' w2 /\ GModel w2 va vr [a, b]) :
    Calls Tryz.prog 10 #[.agg #[c0, c1, c2, c3, c4, c5, c6], rawv, .int .i64 (tempo : Int)] w fun e w' => ∃ ao ac ro rn rc pb fo fn fc m l mm, e = .returned (.agg #[.slice ao 2 ac, .slice ro rn rc, .slice (some ⟨pb, 0, none⟩) 3 3, .slice fo fn fc]) /\ Below w.heap.size w w' /\ Hid (TaskV w' (.slice ao 2 ac) (.slice ro rn rc) (.slice (some ⟨pb, 0, none⟩) 3 3) (.slice fo fn fc) m propsL l) /\ Hid (KTaskOk m l mm /\ m.vars = [a, b] /\ l.length = fn /\ l ≠ []) /\ mm <= tempo /\ fn <= 17 := by
  have HMd : Hid (∀ w', Below w.heap.size w w' -> Calls Tryz.prog 17 #[.agg #[c0, c1, c2, c3, c4, c5, c6]] w' fun e w2 => ∃ ao ac ro rn rc m, e = .returned (.agg #[.slice ao 2 ac, .slice ro rn rc]) /\ Below w'.heap.size w' w2 /\ Hid (ModelV w2 (.slice ao 2 ac) (.slice ro rn rc) m /\ mcode m = 0 /\ m.vars = [a, b] /\ ∀ j, j < m.rules.length -> (m.rules.getD j ru0).guard ≠ [])) := fun w' h => (hmd w' h).mono fun e w2 ⟨va, vr, h1, h2, h3⟩ => by
    obtain ⟨ao, ac, ro, rn, rc, rfl, rfl, _⟩ := h3.shape; obtain ⟨rules, g1, g2, g3⟩ := h3; exact ⟨ao, ac, ro, rn, rc, _, h1, h2, g1, hG.mcode (by omega) g3, rfl, fun j hj => rcode_guard (g3 j hj)⟩
  have HPr : Hid (∀ w', Calls Tryz.prog 18 #[] w' fun e w2 => ∃ pb, e = .returned (.slice (some ⟨pb, 0, none⟩) 3 3) /\ Below w'.heap.size w' w2 /\ Hid (TermsV w2 (.slice (some ⟨pb, 0, none⟩) 3 3) propsL)) := fun w' => (propsFn_any w').mono fun e w2 ⟨pb, h1, h2, h3⟩ => ⟨pb, h1, h2, h3⟩
  have HFo : Hid (∀ w', Below w.heap.size w w' -> Calls Tryz.prog 7 #[rawv, .int .i64 3, .int .i64 (tempo : Int)] w' fun e w2 => ∃ fo fn fc l mm, e = .returned (.slice fo fn fc) /\ mm <= tempo /\ fn <= 17 /\ Below w'.heap.size w' w2 /\ Hid (OpsV w2 (.slice fo fn fc) l /\ (∃ T, FOk mm l T) /\ l.length = fn /\ l ≠ [])) := fun w' h => (formulaFn_any rawv rs 3 tempo w' (by decide) (by decide) (by omega) (hR.up h)).mono fun e w2 ⟨fo, fc, l, mm, h1, h2, h3, h4, h5, h6⟩ => ⟨fo, l.length, fc, l, mm, h1, h3, h4, h6, h5, h2.ok, rfl, h2.ne⟩
  obtain ⟨ra, rn0, rc0, hra⟩ : ∃ a n c, rawv = .slice a n c := by obtain ⟨⟨a, c, h, _⟩, _, _⟩ := hR; exact ⟨_, _, _, h⟩
  subst hra; clear hmd hR; obtain ⟨W1, hW1⟩ : ∃ W1, W1 = (w.alloc (.cells #[c0, c1, c2, c3, c4, c5, c6] 25)).alloc (.cells #[.slice none 0 0, .slice none 0 0, .slice none 0 0, .slice none 0 0] 42) := ⟨_, rfl⟩
  have hb1 : Below w.heap.size w W1 := by rw [hW1]; exact ((Below.refl _ _).alloc (Nat.le_refl _) _).alloc (by simp) _
  have hmo := HMd.out W1 hb1
  have HBx : Hid (∀ w', Below (w.heap.size + 2) W1 w' -> (w'.cell? ⟨w.heap.size + 1, 0, none⟩ = some (.slice none 0 0) /\ w'.cell? ⟨w.heap.size + 1, 1, none⟩ = some (.slice none 0 0) /\ w'.cell? ⟨w.heap.size + 1, 2, none⟩ = some (.slice none 0 0) /\ w'.cell? ⟨w.heap.size + 1, 3, none⟩ = some (.slice none 0 0)) /\ (w'.frozen? ⟨w.heap.size + 1, 0, none⟩ = false /\ w'.frozen? ⟨w.heap.size + 1, 1, none⟩ = false /\ w'.frozen? ⟨w.heap.size + 1, 2, none⟩ = false /\ w'.frozen? ⟨w.heap.size + 1, 3, none⟩ = false)) := fun w' h => by
    have hlt : w.heap.size + 1 < w.heap.size + 2 := by omega
    refine ⟨⟨?_, ?_, ?_, ?_⟩, ?_, ?_, ?_, ?_⟩
    · exact (h.cell (p := ⟨w.heap.size + 1, 0, none⟩) hlt).trans (by rw [hW1]; simp [go_sem])
    · exact (h.cell (p := ⟨w.heap.size + 1, 1, none⟩) hlt).trans (by rw [hW1]; simp [go_sem])
    · exact (h.cell (p := ⟨w.heap.size + 1, 2, none⟩) hlt).trans (by rw [hW1]; simp [go_sem])
    · exact (h.cell (p := ⟨w.heap.size + 1, 3, none⟩) hlt).trans (by rw [hW1]; simp [go_sem])
    · exact (h.frozen (p := ⟨w.heap.size + 1, 0, none⟩) hlt).trans (by rw [hW1]; simp [go_sem])
    · exact (h.frozen (p := ⟨w.heap.size + 1, 1, none⟩) hlt).trans (by rw [hW1]; simp [go_sem])
    · exact (h.frozen (p := ⟨w.heap.size + 1, 2, none⟩) hlt).trans (by rw [hW1]; simp [go_sem])
    · exact (h.frozen (p := ⟨w.heap.size + 1, 3, none⟩) hlt).trans (by rw [hW1]; simp [go_sem])
  have hz1 : W1.heap.size = w.heap.size + 2 := by rw [hW1]; simp
  subst hW1
  go_enter Tryz.func10, Tryz.ntmps10
  go_wp2_with (first
    | (go_at_call 17; refine hmo.mono ?_; rintro e w2 ⟨ao, ac, ro, rn, rc, m, rfl, hb2, HM⟩; have hbw2 := hb1.trans (hb2.mono hb1.size); have hpr := HPr.out w2)
    | (go_at_call 18; refine hpr.mono ?_; rintro e w3 ⟨pb, rfl, hb3, HP⟩; have hbw3 := hbw2.trans (hb3.mono hbw2.size); have hfo := HFo.out w3 hbw3)
    | (go_at_call 7; refine hfo.mono ?_; rintro e w4 ⟨fo, fn, fc, l, mm, rfl, hmm, hfn, hb4, HF⟩; have hbw4 := hbw3.trans (hb4.mono hbw3.size); have hb24 := (hb2.trans (hb3.mono hb2.size)).trans (hb4.mono (Nat.le_trans hb2.size hb3.size)); obtain ⟨⟨k0, k1, k2, k3⟩, g0, g1, g2, g3⟩ := HBx.out w4 (hb24.mono (by omega))))
  have hn : NilTo (w.heap.size + 1) w4 ((((w4.setCell ⟨w.heap.size + 1, 0, none⟩ (.slice ao 2 ac)).setCell ⟨w.heap.size + 1, 1, none⟩ (.slice ro rn rc)).setCell ⟨w.heap.size + 1, 2, none⟩ (.slice (some ⟨pb, 0, none⟩) 3 3)).setCell ⟨w.heap.size + 1, 3, none⟩ (.slice fo fn fc)) := by
    refine ⟨by simp, fun i v hv => ?_, fun b hb => ?_⟩
    · have hblk := (hb24.mono (show w.heap.size + 2 <= _ by omega)).block (w.heap.size + 1) (by omega)
      have hx : ((w.alloc (.cells #[c0, c1, c2, c3, c4, c5, c6] 25)).alloc (.cells #[.slice none 0 0, .slice none 0 0, .slice none 0 0, .slice none 0 0] 42)).cell? ⟨w.heap.size + 1, i, none⟩ = some v := by rw [<- hv]; exact (World.cell?_of_block hblk).symm
      have hy := (MapKept.heap_alloc (w.alloc (.cells #[c0, c1, c2, c3, c4, c5, c6] 25)) (.cells #[.slice none 0 0, .slice none 0 0, .slice none 0 0, .slice none 0 0] 42)).1; rw [World.size_alloc] at hy; simp only [World.cell?, hy] at hx
      have hi : i < 4 := by
        rcases Nat.lt_or_ge i 4 with h | h
        · exact h
        · simp [Array.getElem?_eq_none (show (#[Value.slice none 0 0, .slice none 0 0, .slice none 0 0, .slice none 0 0] : Array Value).size <= i from h)] at hx
      rcases (show i = 0 \/ i = 1 \/ i = 2 \/ i = 3 by omega) with rfl | rfl | rfl | rfl <;> simpa using hx.symm
    · rw [RowKit.Below.heap_setCell _ _ _ _ hb, RowKit.Below.heap_setCell _ _ _ _ hb, RowKit.Below.heap_setCell _ _ _ _ hb, RowKit.Below.heap_setCell _ _ _ _ hb]
  obtain ⟨m1, m2, m3, m4⟩ := HM.out; obtain ⟨f1, f2, f3, f4⟩ := HF.out; have hb34 : Below w2.heap.size w2 w4 := hb3.trans (hb4.mono hb3.size)
  refine bodyPost_ret (v := .agg #[.slice ao 2 ac, .slice ro rn rc, .slice (some ⟨pb, 0, none⟩) 3 3, .slice fo fn fc]) ?_ rfl ⟨ao, ac, ro, rn, rc, pb, fo, fn, fc, m, l, mm, rfl, (((hbw4.setCell (p := ⟨w.heap.size + 1, 0, none⟩) (by simp) _).setCell (p := ⟨w.heap.size + 1, 1, none⟩) (by simp) _).setCell (p := ⟨w.heap.size + 1, 2, none⟩) (by simp) _).setCell (p := ⟨w.heap.size + 1, 3, none⟩) (by simp) _, ⟨⟨(m1.1.below hb34).nilTo hn, (m1.2.below hb34).nilTo m4 hn⟩, (HP.out.below hb4).nilTo (fun j hj => ?_) hn, f1.nilTo hn⟩, ⟨⟨m2, by rw [m3]; rfl, f2, by omega, by omega⟩, m3, f3, f4⟩, hmm, hfn⟩
  · simp [results, Tryz.results10, go_sem, k0, k1, k2, k3]
  · have hj3 : j < 3 := hj
    rcases (show j = 0 \/ j = 1 \/ j = 2 by omega) with rfl | rfl | rfl <;> simp [propsL]
section
variable {m : Mo} {l : List (Int × Int)} {mm : Nat}
end
section
variable {m : Mo} {l : List (Int × Int)}
end
theorem xp_bound {m : Mo} {ps : List (List (Int × Int))} {l : List (Int × Int)} {k P : Nat} (hP : prodTo m.vars m.vars.length = (P : Nat)) (hs : ∀ p ∈ xpP m ps l k, spOk m l p) : (xpP m ps l k).length <= P * 2 ^ (aheadL l).length := by
  have hnd : (xpP m ps l k).Nodup := exS_nodup _ _ k
  have hcode : ∀ p ∈ xpP m ps l k, 0 <= p.1 * ((2 ^ (aheadL l).length : Nat) : Int) + p.2 /\ p.1 * ((2 ^ (aheadL l).length : Nat) : Int) + p.2 < ((P * 2 ^ (aheadL l).length : Nat) : Int) := fun p hp => by
    obtain ⟨⟨h1, h2⟩, d, h3, h4⟩ := hs p hp; generalize 2 ^ (aheadL l).length = N at *; have h5 : p.1 * (N : Int) <= ((P : Int) - 1) * N := Int.mul_le_mul_of_nonneg_right (by omega) (by omega)
    have h6 : 0 <= p.1 * (N : Int) := Int.mul_nonneg h1 (by omega)
    have h7 : ((P : Int) - 1) * (N : Int) = (P : Int) * N - N := by rw [Int.sub_mul]; omega
    have h8 : ((P * N : Nat) : Int) = (P : Int) * N := by push_cast; rfl
    omega
  have hnd2 : ((xpP m ps l k).map fun p => p.1 * ((2 ^ (aheadL l).length : Nat) : Int) + p.2).Nodup := by
    refine List.Pairwise.map _ (fun a b hab => hab) ?_
    refine List.Pairwise.imp_of_mem ?_ hnd
    intro a b ha hb hne e; obtain ⟨_, d, h3, h4⟩ := hs a ha; obtain ⟨_, d', h3', h4'⟩ := hs b hb; generalize 2 ^ (aheadL l).length = N at *; have hN : (0 : Int) < N := by omega
    have e1 : a.2 = b.2 := by
      rw [h4, h4']; have r1 : ((d : Int) + a.1 * N) % (N : Int) = (d : Int) := by rw [Int.add_mul_emod_self_right]; exact Int.emod_eq_of_lt (by omega) (by omega)
      have r2 : ((d' : Int) + b.1 * N) % (N : Int) = (d' : Int) := by rw [Int.add_mul_emod_self_right]; exact Int.emod_eq_of_lt (by omega) (by omega)
      have e' : (d : Int) + a.1 * N = (d' : Int) + b.1 * N := by rw [h4, h4'] at e; omega
      rw [<- r1, <- r2, e']
    have e2 : a.1 * (N : Int) = b.1 * N := by omega
    exact hne (Prod.ext (Int.eq_of_mul_eq_mul_right (by omega) e2) e1)
  have := nodup_length (N := P * 2 ^ (aheadL l).length) hnd2 (fun y hy => by
    obtain ⟨p, hp, rfl⟩ := List.mem_map.1 hy
    exact hcode p hp)
  rw [List.length_map] at this; exact this
theorem xp_few {m : Mo} {ps : List (List (Int × Int))} {l : List (Int × Int)} {P : Nat} (hk : tkcode m ps l = 0) (hP : prodTo m.vars m.vars.length = (P : Nat)) (hz : P * 2 ^ (aheadL l).length <= 20000) : ¬ ExFull m ps l := by
  rintro ⟨k, h1, h2⟩
  have hs : ∀ j, j <= k + 1 -> ∀ p ∈ xpP m ps l j, spOk m l p := fun j => by
    induction j with
    | zero => exact fun _ => xpP_zero hk
    | succ j ih => exact fun hj => xpP_next hk (h1 j (by omega)) (ih (by omega))
  have := xp_bound hP (hs (k + 1) (Nat.le_refl _)); omega
end Go.Proofs.YtobopjjmhginlabGreatDoor
namespace Go.Proofs.YtobopjjmhginlabGreatDoor
open Go.ChangeShapes Go.WideShapes Go.ChangeAt Go.RowKit Go.Deep Go.Maps
open Terms Tm
set_option maxHeartbeats 6400000
set_option maxRecDepth 20000
theorem explore_bad (va vr pv fv : Value) (m : Mo) (ps : List (List (Int × Int))) (l : List (Int × Int)) (w : World) (hB : 0 < w.heap.size) (hT : TabAt w) (hV : TaskV w va vr pv fv m ps l) (hk : tkcode m ps l ≠ 0) :
    Calls Tryz.prog 11 #[.agg #[va, vr, pv, fv]] w (ExAns w m ps l) := by
  unfold ExAns; obtain ⟨ao, ac, rfl⟩ := hV.mo.1.shape; obtain ⟨ro, rc, rfl⟩ := hV.mo.2.shape; obtain ⟨po, pc, rfl⟩ := hV.ps.shape; obtain ⟨fo, fc, rfl, _⟩ := id hV.fo
  obtain ⟨W0, hW0⟩ : ∃ W0, W0 = (w.alloc (.cells #[.slice ao m.vars.length ac, .slice ro m.rules.length rc, .slice po ps.length pc, .slice fo l.length fc] 42)).alloc (.cells #[.slice none 0 0, .int .i64 0, .slice none 0 0, .slice none 0 0, .int .i64 0] 48) := ⟨_, rfl⟩
  have hbW : Below w.heap.size w W0 := by rw [hW0]; exact ((Below.refl _ _).alloc (Nat.le_refl _) _).alloc (by simp) _
  have hzW : W0.heap.size = w.heap.size + 2 := by rw [hW0]; simp
  have hX0 : W0.heap[w.heap.size + 1]? = some (grB (.slice none 0 0) (.slice none 0 0) (.slice none 0 0) 0 0) := by
    rw [hW0]; have := (MapKept.heap_alloc (w.alloc (.cells #[.slice ao m.vars.length ac, .slice ro m.rules.length rc, .slice po ps.length pc, .slice fo l.length fc] 42)) (.cells #[.slice none 0 0, .int .i64 0, .slice none 0 0, .slice none 0 0, .int .i64 0] 48)).1; rw [World.size_alloc] at this; exact this
  have hsv := surveyOf_bad _ _ _ _ m ps l W0 (Nat.lt_of_lt_of_le hB hbW.size) (hT.below hbW hB) (hV.below hbW) hk
  have HFin : Hid (∀ w1, Below W0.heap.size W0 w1 -> (w1.cell? ⟨w.heap.size + 1, 0, none⟩ = some (.slice none 0 0) /\ w1.cell? ⟨w.heap.size + 1, 1, none⟩ = some (.int .i64 0) /\ w1.cell? ⟨w.heap.size + 1, 2, none⟩ = some (.slice none 0 0) /\ w1.cell? ⟨w.heap.size + 1, 3, none⟩ = some (.slice none 0 0) /\ w1.cell? ⟨w.heap.size + 1, 4, none⟩ = some (.int .i64 0)) /\ (∀ i, w1.frozen? ⟨w.heap.size + 1, i, none⟩ = false) /\ Below w.heap.size w w1) := fun w1 h => by
    have hb := (h.block (w.heap.size + 1) (by omega)).trans hX0
    exact ⟨grB_cells hb, grB_free hb, hbW.trans (h.mono hbW.size)⟩
  have HK : Hid (tkcode m ps l ≠ 0) := hk; generalize tkcode m ps l = tc at *; generalize m.vars.length = vn at *; generalize m.rules.length = rn at *; generalize ps.length = pn at *; generalize l.length = fn at *; clear hV hT
  go_enter Tryz.func11, Tryz.ntmps11
  go_wp2_with (first | (go_at_call 19; rw [<- hW0]; refine hsv.mono ?_; rintro e w1 ⟨rfl, hb1⟩; obtain ⟨⟨x0, x1, x2, x3, x4⟩, xf, hbw⟩ := HFin.out w1 hb1; have f0 := xf 0; have f1 := xf 1; have f2 := xf 2; have f3 := xf 3; have f4 := xf 4))
  have hbF : Below w.heap.size w (((((w1.setCell ⟨w.heap.size + 1, 0, none⟩ (.slice none 0 0)).setCell ⟨w.heap.size + 1, 1, none⟩ (.int .i64 0)).setCell ⟨w.heap.size + 1, 2, none⟩ (.slice none 0 0)).setCell ⟨w.heap.size + 1, 3, none⟩ (.slice none 0 0)).setCell ⟨w.heap.size + 1, 4, none⟩ (.int .i64 0)) := hbw.trans ((chg_box w1 (w.heap.size + 1) _ _ _ _ _).below (fun i e => by omega) (by have := hbw.size; omega))
  refine bodyPost_ret (v := .tuple #[.agg #[.slice none 0 0, .int .i64 0, .slice none 0 0, .slice none 0 0, .int .i64 0], .int .i64 tc]) ?_ rfl (.inr (.inr ⟨HK.out, rfl, hbF⟩))
  simp [results, Tryz.results11, go_sem, x0, x1, x2, x3, x4]
theorem ex_start (W0 w1 w2 : World) (n : Nat) (va vr pv fv : Value) (m : Mo) (ps : List (List (Int × Int))) (l : List (Int × Int)) (ho : Option Addr) (hc : Nat) (so : Option Addr) (sc : Nat) (hk : tkcode m ps l = 0) (hb1 : Below W0.heap.size W0 w1) (hn : W0.heap.size <= n) (hs : SurvAt w1 (n + 2) va vr pv fv (.slice ho (aheadL l).length hc) n (n + 1)) (hor : w1.ownsRow W0.heap.size 3 1 (.slice ho (aheadL l).length hc) (aheadL l).length (ivals (aheadL l))) (hm : w1.heap[n]? = some (.map #[] 0) /\ w1.heap[n + 1]? = some (.map #[] 0)) (hb2 : Below w1.heap.size w1 w2) (hsp : SpO w2 w1.heap.size (.slice so (begL m ps l).length sc) (begL m ps l)) :
    Calls Tryz.prog 21 #[.pointer (some ⟨w2.heap.size + 1, 0, none⟩), .slice so (begL m ps l).length sc] ((w2.alloc (.map #[] 0)).alloc (.cells #[.slice none 0 0, .int .i64 ((begL m ps l).length : Nat), .slice none 0 0, .slice none 0 0, .int .i64 ((aheadL l).length : Nat), .map (some w2.heap.size)] 80)) fun e w3 => ∃ v sv, e = .returned v /\ Hid (ExW W0 w3 w2.heap.size (w2.heap.size + 1) w2.heap.size (n + 2) n (n + 1) (0 * 300001) va vr pv fv m ps l ho hc (xpP m ps l 0) (xpN m ps l 0) (xpT m ps l 0) ((begL m ps l).length : Nat) ((aheadL l).length : Nat) sv (.slice none 0 0) (.slice none 0 0)) := by
  have hbl := begL_len hk; have hv1 : SvOk (fun _ => True) W0 w1 (n + 2) n (n + 1) 0 va vr pv fv m ps l ho hc := SvOk.made (Below.refl _ _) hb1 hn hs hor hm.1 hm.2
  have hv2 := hv1.below hb2; have hl1 := hv2.box.lt; have hl2 : n < w2.heap.size := by omega
  obtain ⟨WA, hWA⟩ : ∃ WA, WA = (w2.alloc (.map #[] 0)).alloc (.cells #[.slice none 0 0, .int .i64 ((begL m ps l).length : Nat), .slice none 0 0, .slice none 0 0, .int .i64 ((aheadL l).length : Nat), .map (some w2.heap.size)] 80) := ⟨_, rfl⟩
  have hbA : Below w2.heap.size w2 WA := by rw [hWA]; exact ((Below.refl _ _).alloc (Nat.le_refl _) _).alloc (by simp) _
  have hmA : WA.heap[w2.heap.size]? = some (.map #[] 0) := by
    rw [hWA, Below.heap_alloc _ _ _ (by simp)]
    exact (MapKept.heap_alloc w2 _).1
  have hxA : WA.heap[w2.heap.size + 1]? = some (atB (.slice none 0 0) (.slice none 0 0) (.slice none 0 0) ((begL m ps l).length : Nat) ((aheadL l).length : Nat) w2.heap.size) := by
    rw [hWA]; have := (MapKept.heap_alloc (w2.alloc (.map #[] 0)) (.cells #[.slice none 0 0, .int .i64 ((begL m ps l).length : Nat), .slice none 0 0, .slice none 0 0, .int .i64 ((aheadL l).length : Nat), .map (some w2.heap.size)] 80)).1; rw [World.size_alloc] at this; exact this
  have hX : ExW W0 WA w2.heap.size (w2.heap.size + 1) w2.heap.size (n + 2) n (n + 1) (0 * 300001) va vr pv fv m ps l ho hc [] (xpN m ps l 0) (xpT m ps l 0) ((begL m ps l).length : Nat) ((aheadL l).length : Nat) (.slice none 0 0) (.slice none 0 0) (.slice none 0 0) := by
    refine ⟨((hv2.re (Pz' := offT (.slice none 0 0)) (fun _ _ _ e => by simp [Value.ownBlock] at e) (fun _ _ e => by simp [Value.ownBlock] at e)).below hbA).mono (by omega), ⟨hxA, by omega, Nat.le_refl _, LiesAt.new hmA, SpO.nil _ _, ⟨[], World.ownsRow_nil _ _ _ _, rfl, fun i hi => by simp [xpN] at hi⟩, World.ownsRow_nil _ _ _ _⟩, ?_, ?_, ?_, ?_⟩
    · have := hv2.bel.size; omega
    · omega
    · omega
    · omega
  have hsv := (hsp.later hbA (Nat.le_refl _)).v; have hIs : ∀ j, j < (begL m ps l).length -> I64s ((begL m ps l).getD j (0, 0)) := fun j hj => spot_I64 hk (begL_spot hk (by rw [List.getD_eq_getElem?_getD, List.getElem?_eq_getElem hj]; exact List.getElem_mem _))
  have hsep : ∀ a, so = some a -> ¬ atZ (w2.heap.size + 1) w2.heap.size (.slice none 0 0) a.block := fun a e z => by
    have hlt : a.block < w2.heap.size := by
      rcases hsp.2 with ⟨h0, _⟩ | ⟨g, cap, cur, h1, _, h3, _⟩
      · rw [e] at h0; simp at h0
      · rw [e] at h1
        injection h1 with h1 _ _
        injection h1 with h1
        subst h1; exact (Array.getElem?_eq_some_iff.1 h3).1
    rcases z with z | z | z
    · omega
    · omega
    · simp [Value.ownBlock] at z
  rw [<- hWA]; refine (places_any WA w2.heap.size (w2.heap.size + 1) w2.heap.size [] _ _ _ _ _ _ _ _ so sc hX.tl hsv hsep hIs (by simp; omega)).mono fun e w3 ⟨h1, sv', h2, h3, h4, h5, h6⟩ => ?_
  exact ⟨_, sv', h1, hX.put h5 h2⟩
theorem ex_round (W0 wr : World) (base A lm B bs bl k : Nat) (va vr pv fv : Value) (m : Mo) (ps : List (List (Int × Int))) (l : List (Int × Int)) (ho : Option Addr) (hc : Nat) (init many : Int) (sv nv tv : Value) (hB : 0 < W0.heap.size) (hT : TabAt W0) (hV : TaskV W0 va vr pv fv m ps l) (hk : tkcode m ps l = 0) (hX : ExW W0 wr base A lm B bs bl (k * 300001) va vr pv fv m ps l ho hc (xpP m ps l k) (xpN m ps l k) (xpT m ps l k) init many sv nv tv) (hlt : k < (xpP m ps l k).length) (hz : (xpP m ps l k).length <= 20000) (hsp : ∀ p ∈ xpP m ps l k, spOk m l p) :
    Calls Tryz.prog 22 #[.pointer (some ⟨A, 0, none⟩), .pointer (some ⟨B, 0, none⟩), .agg #[.int .i64 (xpAt m ps l k).1, .int .i64 (xpAt m ps l k).2]] wr fun e w' => e = .returned (.int .i64 (if 20000 < (xpP m ps l (k + 1)).length then 12 else 0)) /\ ∃ sv nv tv, Hid (ExW W0 w' base A lm B bs bl ((k + 1) * 300001) va vr pv fv m ps l ho hc (xpP m ps l (k + 1)) (xpN m ps l (k + 1)) (xpT m ps l (k + 1)) init many sv nv tv) := by
  obtain ⟨h1, d, h2, h3⟩ := hsp _ (xpAt_mem hlt); have hgo := goThrough_any W0 wr base A lm B bs bl (k * 300001) va vr pv fv m ps l ho hc (xpP m ps l k) (xpN m ps l k) (xpT m ps l k) init many sv nv tv (xpAt m ps l k).1 d hB hT hV hk hX (by omega) h1 h2 hz (by rw [xpN_len]; omega) (by rw [xpT_len]; omega)
  unfold GoPost at hgo; rw [<- h3] at hgo; refine hgo.mono fun e w' ⟨g1, sv', nv', tv', g2⟩ => ⟨g1, sv', nv', tv', ?_⟩
  have e1 : (k + 1) * 300001 = k * 300001 + 300001 := by omega
  rw [e1]; exact g2
theorem explore_ok (va vr pv fv : Value) (m : Mo) (ps : List (List (Int × Int))) (l : List (Int × Int)) (w : World) (hB : 0 < w.heap.size) (hT : TabAt w) (hV : TaskV w va vr pv fv m ps l) (hk : tkcode m ps l = 0) :
    Calls Tryz.prog 11 #[.agg #[va, vr, pv, fv]] w (ExAns w m ps l) := by
  unfold ExAns; obtain ⟨ao, ac, rfl⟩ := hV.mo.1.shape; obtain ⟨ro, rc, rfl⟩ := hV.mo.2.shape; obtain ⟨po, pc, rfl⟩ := hV.ps.shape; obtain ⟨fo, fc, rfl, _⟩ := id hV.fo
  obtain ⟨W0, hW0⟩ : ∃ W0, W0 = (w.alloc (.cells #[.slice ao m.vars.length ac, .slice ro m.rules.length rc, .slice po ps.length pc, .slice fo l.length fc] 42)).alloc (.cells #[.slice none 0 0, .int .i64 0, .slice none 0 0, .slice none 0 0, .int .i64 0] 48) := ⟨_, rfl⟩
  have hbW : Below w.heap.size w W0 := by rw [hW0]; exact ((Below.refl _ _).alloc (Nat.le_refl _) _).alloc (by simp) _
  have hzW : W0.heap.size = w.heap.size + 2 := by rw [hW0]; simp
  have hX0 : W0.heap[w.heap.size + 1]? = some (grB (.slice none 0 0) (.slice none 0 0) (.slice none 0 0) 0 0) := by
    rw [hW0]; have := (MapKept.heap_alloc (w.alloc (.cells #[.slice ao m.vars.length ac, .slice ro m.rules.length rc, .slice po ps.length pc, .slice fo l.length fc] 42)) (.cells #[.slice none 0 0, .int .i64 0, .slice none 0 0, .slice none 0 0, .int .i64 0] 48)).1; rw [World.size_alloc] at this; exact this
  have hB0 : 0 < W0.heap.size := Nat.lt_of_lt_of_le hB hbW.size; have hT0 := hT.below hbW hB; have hV0 := hV.below hbW; have hsv := surveyOf_ok _ _ _ _ m ps l W0 hB0 hT0 hV0 hk
  have HFin : Hid (∀ w1, Below W0.heap.size W0 w1 -> (w1.cell? ⟨w.heap.size + 1, 0, none⟩ = some (.slice none 0 0) /\ w1.cell? ⟨w.heap.size + 1, 1, none⟩ = some (.int .i64 0) /\ w1.cell? ⟨w.heap.size + 1, 2, none⟩ = some (.slice none 0 0) /\ w1.cell? ⟨w.heap.size + 1, 3, none⟩ = some (.slice none 0 0) /\ w1.cell? ⟨w.heap.size + 1, 4, none⟩ = some (.int .i64 0)) /\ (∀ i, w1.frozen? ⟨w.heap.size + 1, i, none⟩ = false) /\ TyB w1 (w.heap.size + 1) 48 /\ Below w.heap.size w w1) := fun w1 h => by
    have hb := (h.block (w.heap.size + 1) (by omega)).trans hX0
    exact ⟨grB_cells hb, grB_free hb, ⟨_, _, hb⟩, hbW.trans (h.mono hbW.size)⟩
  have HBe : Hid (∀ (w1 : World) (B bs bl : Nat) (ho : Option Addr) (hcp : Nat), Below W0.heap.size W0 w1 -> SurvAt w1 B (.slice ao m.vars.length ac) (.slice ro m.rules.length rc) (.slice po ps.length pc) (.slice fo l.length fc) (.slice ho (aheadL l).length hcp) bs bl -> Calls Tryz.prog 20 #[.pointer (some ⟨B, 0, none⟩)] w1 fun e w' => ∃ so sc, e = .returned (.tuple #[.slice so (begL m ps l).length sc, .int .i64 0]) /\ Below w1.heap.size w1 w' /\ Hid (SpO w' w1.heap.size (.slice so (begL m ps l).length sc) (begL m ps l))) := fun w1 B bs bl ho hcp h hs => begin_any B _ _ _ _ m ps l ho hcp bs bl w1 (Nat.lt_of_lt_of_le hB0 h.size) (hT0.below h hB0) (hV0.below h) hk hs
  have HSt := (show Hid _ from fun (w1 w2 : World) (n : Nat) (ho : Option Addr) (hc : Nat) (so : Option Addr) (sc : Nat) => ex_start W0 w1 w2 n (.slice ao m.vars.length ac) (.slice ro m.rules.length rc) (.slice po ps.length pc) (.slice fo l.length fc) m ps l ho hc so sc hk)
  have HRd := (show Hid _ from fun (wr : World) (base A lm B bs bl k : Nat) (ho : Option Addr) (hc : Nat) (sv nv tv : Value) => ex_round W0 wr base A lm B bs bl k (.slice ao m.vars.length ac) (.slice ro m.rules.length rc) (.slice po ps.length pc) (.slice fo l.length fc) m ps l ho hc ((begL m ps l).length : Nat) ((aheadL l).length : Nat) sv nv tv hB0 hT0 hV0 hk)
  have HP0 : Hid ((∀ p ∈ xpP m ps l 0, spOk m l p) /\ (xpP m ps l 0).length <= 20000) := ⟨xpP_zero hk, by
    have h1 := (plTo_length (begL m ps l) []).2; have h2 := begL_len hk; have e : xpP m ps l 0 = plTo [] (begL m ps l) := rfl; rw [e]; simp at h1
    omega⟩
  have HPn : Hid (∀ k, k < (xpP m ps l k).length -> (∀ p ∈ xpP m ps l k, spOk m l p) -> ∀ p ∈ xpP m ps l (k + 1), spOk m l p) := fun k h1 h2 => xpP_next hk h1 h2
  have HK : Hid (tkcode m ps l = 0) := hk; have hbn := begL_len hk; have han := (lcode_zero (tk_zero hk).2).2.2.2.2; unfold SurvPost at hsv; clear hV hT hV0 hT0 hk; generalize hbl : (begL m ps l).length = bn at *; generalize hal : (aheadL l).length = an at *; generalize m.vars.length = vn at *; generalize m.rules.length = rn at *; generalize ps.length = pn at *; generalize l.length = fn at *
  have hmm := @run_makeMap Tryz.prog
  go_enter Tryz.func11, Tryz.ntmps11
  go_upto_region 8 with (first | (go_at_call 19; rw [<- hW0]; refine hsv.mono ?_; rintro e w1 ⟨n, ho, hcp, rfl, hb1, hn1, _, HS, HO, HM⟩; have hbe := HBe.out w1 _ _ _ _ _ hb1 HS.out) | (go_at_call 20; refine hbe.mono ?_; rintro e w2 ⟨so, sc, rfl, hb2, HSp⟩; have hst := HSt.out w1 w2 n ho hcp so sc hb1 hn1 HS.out HO.out HM.out hb2 HSp.out; have x4 := (HS.out.later hb2).c4))
  go_wp2_with (first | (go_at_call 21; refine hst.mono ?_; rintro e w3 ⟨v3, sv3, rfl, HX3⟩))
  generalize hA : w2.heap.size + 1 = A at *; generalize hlm : w2.heap.size = lm at *; generalize hBn : n + 2 = B at *; generalize hbs : n + 1 = bl at *; clear hst hsv hbe HSt HBe HS HO HM HSp x4 hb1 hb2 hmm hlm
  go_loopw [8] (fun i wr => ∃ k pk : Nat, i = .int .i64 k /\ k <= pk /\ pk <= 20000 /\ Hid ((xpP m ps l k).length = pk /\ (∀ p ∈ xpP m ps l k, spOk m l p) /\ ∀ j, j < k -> j < (xpP m ps l j).length) /\ ∃ vo vc nv tv, Hid (ExW W0 wr lm A lm B n bl (k * 300001) (.slice ao vn ac) (.slice ro rn rc) (.slice po pn pc) (.slice fo fn fc) m ps l ho hcp (xpP m ps l k) (xpN m ps l k) (xpT m ps l k) (bn : Nat) (an : Nat) (.slice vo pk vc) nv tv)) (fun i _ => 20001 - (intOf i).toNat)
  case atStart =>
    obtain ⟨vo, vc, e⟩ := HX3.out.tl.sp.shape; refine ⟨0, (xpP m ps l 0).length, rfl, Nat.zero_le _, HP0.out.2, ⟨rfl, HP0.out.1, fun j hj => by omega⟩, vo, vc, .slice none 0 0, .slice none 0 0, ?_⟩
    rw [<- e]; exact HX3.out
  case round =>
    obtain ⟨k, pk, rfl, hkp, hpk, HK2, vo, vc, nv, tv, HX⟩ := hrel; obtain ⟨a0, a1, a2, a3, a4, a5⟩ := atB_cells HX.out.tl.box
    by_cases hlt : k < pk
    · have hki : (k : Int) < (pk : Int) := by omega
      have hlt2 : k < (xpP m ps l k).length := by rw [HK2.out.1]; exact hlt
      obtain ⟨b, off, rfl, _, c0, c1⟩ := HX.out.tl.sp.v.get hlt2; have hrd := HRd.out wr lm A lm B n bl k ho hcp _ nv tv HX.out hlt2 (by rw [HK2.out.1]; exact hpk) HK2.out.2.1
      have HKn : Hid ((∀ p ∈ xpP m ps l (k + 1), spOk m l p) /\ ∀ j, j < k + 1 -> j < (xpP m ps l j).length) := ⟨HPn.out k hlt2 HK2.out.2.1, fun j hj => by
        by_cases h : j < k
        · exact HK2.out.2.2 j h
        · obtain rfl : j = k := by omega
          exact hlt2⟩
      have e1 : (xpP m ps l k).getD k (0, 0) = xpAt m ps l k := rfl; rw [e1] at c0 c1; clear e1 HX HRd hlt2; generalize xpAt m ps l k = s at *; obtain ⟨x, y⟩ := s; simp only at c0 c1 hrd
      by_cases hfull : 20000 < (xpP m ps l (k + 1)).length
      · rw [if_pos hfull] at hrd
        have HFu : Hid (ExFull m ps l) := ⟨k, fun j hj => HKn.out.2 j (by omega), hfull⟩
        clear hfull HKn HK2
        go_wp2_with (first | (go_at_call 22; refine hrd.mono ?_; rintro e w4 ⟨rfl, sv4, nv4, tv4, HX4⟩; obtain ⟨⟨x0, x1, x2, x3, x4⟩, xf, _, hbw⟩ := HFin.out w4 HX4.out.su.bel; have f0 := xf 0; have f1 := xf 1; have f2 := xf 2; have f3 := xf 3; have f4 := xf 4))
        have hbF : Below w.heap.size w (((((w4.setCell ⟨w.heap.size + 1, 0, none⟩ (.slice none 0 0)).setCell ⟨w.heap.size + 1, 1, none⟩ (.int .i64 0)).setCell ⟨w.heap.size + 1, 2, none⟩ (.slice none 0 0)).setCell ⟨w.heap.size + 1, 3, none⟩ (.slice none 0 0)).setCell ⟨w.heap.size + 1, 4, none⟩ (.int .i64 0)) := hbw.trans ((chg_box w4 (w.heap.size + 1) _ _ _ _ _).below (fun i e => by omega) (by have := hbw.size; omega))
        refine bodyPost_ret (v := .tuple #[.agg #[.slice none 0 0, .int .i64 0, .slice none 0 0, .slice none 0 0, .int .i64 0], .int .i64 12]) ?_ rfl (.inr (.inl ⟨HK.out, HFu.out, rfl, hbF⟩))
        simp [results, Tryz.results11, go_sem, x0, x1, x2, x3, x4]
      · rw [if_neg hfull] at hrd
        have HLe : Hid ((xpP m ps l (k + 1)).length <= 20000 /\ pk <= (xpP m ps l (k + 1)).length) := ⟨by omega, by
          rw [<- HK2.out.1]
          exact (exS_pre (begL m ps l) (xpBh m ps l) k).length_le⟩
        clear hfull HK2
        go_wp2_with (first | (go_at_call 22; refine hrd.mono ?_; rintro e w4 ⟨rfl, sv4, nv4, tv4, HX4⟩))
        go_roundw
        case rel =>
          obtain ⟨vo4, vc4, e⟩ := HX4.out.tl.sp.shape; refine ⟨k + 1, (xpP m ps l (k + 1)).length, by go_num, by have := HLe.out.2; omega, HLe.out.1, ⟨rfl, HKn.out⟩, vo4, vc4, nv4, tv4, ?_⟩
          rw [<- e]; exact HX4.out
        case measure => simp [intOf]; omega
    · obtain rfl : k = pk := by omega
      obtain ⟨⟨x0, x1, x2, x3, x4⟩, xf, hty, hbw⟩ := HFin.out wr HX.out.su.bel; have f0 := xf 0; have f1 := xf 1; have f2 := xf 2; have f3 := xf 3; have f4 := xf 4; have HDn : Hid (ExDone m ps l k) := ⟨HK2.out.1, hpk, HK2.out.2.2, HK2.out.2.1⟩
      have HG : Hid (GrX wr w.heap.size m ps l k (.slice vo k vc) nv tv) := by
        have hle : w.heap.size <= lm := by have := HX.out.lo.1; have := hbW.size; omega
        exact ⟨owns_mono HX.out.tl.sp hle, HX.out.tl.nx.mono hle, owns_mono HX.out.tl.st hle⟩
      obtain ⟨no, nn, nc, rfl⟩ : ∃ no nn nc, nv = .slice no nn nc := by
        obtain ⟨us, h1, _⟩ := HX.out.tl.nx; obtain ⟨x, y, e⟩ := owns_slice h1; exact ⟨_, _, _, e⟩
      obtain ⟨xo, xn, xc, rfl⟩ : ∃ xo xn xc, tv = .slice xo xn xc := by
        obtain ⟨x, y, e⟩ := owns_slice HX.out.tl.st; exact ⟨_, _, _, e⟩
      have HBF : Hid (∀ w8, Chg (fun i => i = w.heap.size + 1) wr w8 -> Below w.heap.size w w8 /\ GrX w8 w.heap.size m ps l k (.slice vo k vc) (.slice no nn nc) (.slice xo xn xc)) := fun w8 h => ⟨hbw.trans (h.below (fun i e => by omega) (by have := hbw.size; omega)), HG.out.chg h hty⟩
      clear HX HK2 HRd HG hty
      go_wp2_with fail
      obtain ⟨r1, r2⟩ := HBF.out _ (chg_box wr (w.heap.size + 1) _ _ _ _ _); refine bodyPost_ret (v := .tuple #[.agg #[.slice vo k vc, .int .i64 (bn : Nat), .slice no nn nc, .slice xo xn xc, .int .i64 (an : Nat)], .int .i64 0]) ?_ rfl (.inl ⟨HK.out, k, HDn.out, _, _, _, rfl, r1, r2⟩)
      simp [results, Tryz.results11, go_sem, x0, x1, x2, x3, x4]
theorem explore_any (va vr pv fv : Value) (m : Mo) (ps : List (List (Int × Int))) (l : List (Int × Int)) (w : World) (hB : 0 < w.heap.size) (hT : TabAt w) (hV : TaskV w va vr pv fv m ps l) :
    Calls Tryz.prog 11 #[.agg #[va, vr, pv, fv]] w (ExAns w m ps l) := by
  by_cases hk : tkcode m ps l = 0
  · exact explore_ok va vr pv fv m ps l w hB hT hV hk
  · exact explore_bad va vr pv fv m ps l w hB hT hV hk
def tkB (va vr pv fv : Value) : Obj := .cells #[va, vr, pv, fv] 42 (0, 0)
theorem tkB_cells {w : World} {X : Nat} {va vr pv fv : Value} (hb : w.heap[X]? = some (tkB va vr pv fv)) : w.cell? ⟨X, 0, none⟩ = some va /\ w.cell? ⟨X, 1, none⟩ = some vr /\ w.cell? ⟨X, 2, none⟩ = some pv /\ w.cell? ⟨X, 3, none⟩ = some fv := by
  unfold tkB at hb; refine ⟨?_, ?_, ?_, ?_⟩ <;> simp [World.cell?, hb]
structure TkAt (w1 wx : World) (X : Nat) (va vr pv : Value) (fo : Option Addr) (fn fc : Nat) (m : Mo) (l : List (Int × Int)) : Prop where
  bel : Below w1.heap.size w1 wx
  box : wx.heap[X]? = some (tkB va vr pv (.slice fo fn fc))
  tk : TaskV wx va vr pv (.slice fo fn fc) m propsL l
  hX : w1.heap.size <= X
section
variable {w1 wx w' : World} {X : Nat} {va vr pv : Value} {fo : Option Addr} {fn fc : Nat} {m : Mo} {l : List (Int × Int)}
end
def MIn (nx : Int -> List Int) (first : Int) (N b : Nat) (w1 wr : World) (v : Value) (p : Nat) (x : Int) (nl : List Int) (q bs h4 : Nat) (nv : Value) : Prop :=
  MetAt nx first N b w1 wr v p x nl q /\ (∃ g cap n, v = .slice (some ⟨g, 0, none⟩) n cap /\ (g < bs \/ h4 <= g)) /\ wr.ownsRow bs 3 1 nv nl.length (ivals nl) /\ h4 <= wr.heap.size /\ (∀ k, nv.ownBlock = some k -> k < h4) /\ b < bs
theorem MIn.put {nx : Int -> List Int} {first : Int} {N b : Nat} {w1 wr : World} {p : Nat} {x : Int} {nl : List Int} {q bs h4 : Nat} {nv : Value} {R : List Int} {g2 gc2 : Nat} {D : DataW Unit} (hpR : p < R.length) (hRx : R.getD p 0 = x) (hin : ∀ j, j < q -> nl.getD j 0 ∈ R) (hM : Met nx first N b w1 wr (.slice (some ⟨g2, 0, none⟩) R.length gc2) R p)
    (hyN : 0 <= nl.getD q 0 /\ nl.getD q 0 < N) (hyr : RSt nx first (nl.getD q 0)) (hyR : ¬ nl.getD q 0 ∈ R) (hhas : ∀ y : Int, 0 <= y /\ y <= 5000 -> Maps.has D (.int .i64 y) = decide (y ∈ R)) (hown : wr.ownsMap Tryz.prog 3 (plainElem Tryz.prog 3) b R.length D) (hg2 : g2 < bs \/ h4 <= g2)
    (how : wr.ownsRow bs 3 1 nv nl.length (ivals nl)) (hh4 : h4 <= wr.heap.size) (hnvl : ∀ k, nv.ownBlock = some k -> k < h4) (hbs : b < bs) (hb1 : w1.heap.size = b) {w5 w6 : World} {o : Obj} {g6 c6 : Nat} (h1 : w5.ownsMap Tryz.prog 3 (plainElem Tryz.prog 3) b (R.length + 1) (D.put (.int .i64 (nl.getD q 0)) (.lit (.int .i64 (R.length : Int))))) (h2 : wr.grownBy w5 (some b)) (h3 : (w5.alloc o).grownBy w6 (some g2))
    (h4o : w6.ownsRow (b + 1) 3 1 (.slice (some ⟨g6, 0, none⟩) (R.length + 1) c6) (R.length + 1) (ivals R ++ [.int .i64 (nl.getD q 0)])) (h5 : g2 = g6 \/ g6 = (w5.alloc o).heap.size) : MIn nx first N b w1 w6 (.slice (some ⟨g6, 0, none⟩) (R.length + 1) c6) p x nl (q + 1) bs h4 nv := by
  have hs2 := h2.size; have hs3 := h3.size; simp only [World.size_alloc] at hs3; have hlt := hM.own.lt g2 rfl
  have hgr : Below b wr w6 := by
    have e1 : Below b wr w5 := (Below.refl _ _).grown h2 (by have := hlt.1; have := hlt.2; omega) (fun k hk => by rw [<- Option.some.inj hk]; exact Nat.le_refl _)
    exact (e1.alloc (by have := hlt.1; have := hlt.2; omega) o).grown h3 (by simp; have := hlt.1; have := hlt.2; omega) (fun k hk => by rw [<- Option.some.inj hk]; have := hlt.1; omega)
  refine ⟨⟨R ++ [nl.getD q 0], by simp; omega, ?_, fun j hj => ?_, ?_, ?_, fun z hz => ?_, fun i hi y hy => ?_, ?_, by simp, ?_, ?_⟩, ⟨g6, c6, _, rfl, ?_⟩, ?_, by omega, hnvl, hbs⟩
  · rw [List.getD_eq_getElem?_getD, List.getElem?_append_left hpR, <- List.getD_eq_getElem?_getD]; exact hRx
  · by_cases hjq : j < q
    · exact List.mem_append.2 (.inl (hin j hjq))
    · obtain rfl : j = q := by omega
      simp
  · rw [List.nodup_append]
    refine ⟨hM.nodup, by simp, fun a ha c hc => ?_⟩
    rw [List.mem_singleton] at hc; subst hc; exact fun e => hyR (e ▸ ha)
  · exact List.mem_append.2 (.inl hM.fst)
  · rcases List.mem_append.1 hz with hz | hz
    · exact hM.all z hz
    · simp at hz; subst hz; exact ⟨hyN, hyr⟩
  · have hil : i < R.length := by omega
    rw [List.getD_eq_getElem?_getD, List.getElem?_append_left hil, <- List.getD_eq_getElem?_getD] at hy
    exact List.mem_append.2 (.inl (hM.closed i hi y hy))
  · have : ivals (R ++ [nl.getD q 0]) = ivals R ++ [.int .i64 (nl.getD q 0)] := by simp [ivals]
    rw [this, List.length_append]; exact h4o
  · have hm6 : w6.ownsMap Tryz.prog 3 (plainElem Tryz.prog 3) b (R.length + 1) (D.put (.int .i64 (nl.getD q 0)) (.lit (.int .i64 (R.length : Int)))) := by
      have hb5 : Below w5.heap.size w5 (w5.alloc o) := (Below.refl _ _).alloc (Nat.le_refl _) o; have := h1.kept (row := none) ⟨hb5.os, hb5.tape, hb5.output, hb5.size, fun i hi _ => hb5.block i hi⟩ (by simp)
      exact this.kept h3 (fun e => by have := Option.some.inj e; omega)
    exact MetIs.put hown hhas hm6
  · exact hM.bel.trans (hgr.mono (by omega))
  · rcases h5 with rfl | h5
    · exact hg2
    · right; rw [h5]; simp; omega
  · have hnv : ∀ k, nv.ownBlock = some k -> bs <= k /\ k < h4 := fun k hk => ⟨(how.lt k hk).1, hnvl k hk⟩
    have e1 := how.kept h2 (by cases hx : nv.ownBlock with | none => exact .inl rfl | some k => exact .inr (fun e => by have := hnv k hx; have := Option.some.inj e; omega))
    exact (e1.alloc o).kept h3 (by cases hx : nv.ownBlock with | none => exact .inl rfl | some k => exact .inr (fun e => by have := hnv k hx; have := Option.some.inj e; omega))
theorem reach_loop (va vr : Value) (m : Mo) (w : World) (hB : 0 < w.heap.size) (hT : TabAt w) (hV : ModelV w va vr m) (hm : mcode m = 0) :
    Calls Tryz.prog 12 #[.agg #[va, vr]] w fun e w' => ∃ v, e = .returned (.tuple #[v, .int .i64 0]) /\ Below w.heap.size w w' /\ IntsV w' v (reachN (nextL m) (firstC m) (prodTo m.vars m.vars.length).toNat) := by
  have hA : ∀ o, Below w.heap.size w (w.alloc o) := fun o => (Below.refl _ _).alloc (Nat.le_refl _) o
  have hfi : ∀ o, Calls Tryz.prog 23 #[.agg #[va, vr]] (w.alloc o) fun e w' => e = .returned (.tuple #[.int .i64 (firstC m), .int .i64 0]) /\ Below (w.alloc o).heap.size (w.alloc o) w' := fun o => by
    have h := mfirst_any va vr m (w.alloc o) (Nat.lt_of_lt_of_le hB (hA o).size) (hT.below (hA o) hB) (hV.below (hA o)); rw [hm, if_pos rfl] at h; exact h
  obtain ⟨hf0, hf1⟩ := firstC_in hm; have hN := (mcode_vars hm).prod (j := m.vars.length) (Nat.le_refl _); obtain ⟨N, hNe⟩ : ∃ N : Nat, prodTo m.vars m.vars.length = N := ⟨(prodTo m.vars m.vars.length).toNat, by omega⟩
  have HNx : Hid (∀ w' (_ : Below w.heap.size w w') (c : Int), 0 <= c /\ c < N -> Calls Tryz.prog 24 #[.agg #[va, vr], .int .i64 c] w' fun e w2 => ∃ v, e = .returned (.tuple #[v, .int .i64 0]) /\ Below w'.heap.size w' w2 /\ IntsV w2 v (nextL m c) /\ w2.ownsRow w'.heap.size 3 1 v (nextL m c).length (ivals (nextL m c))) := fun w' hb c hc => by
    have hw : wcode m c = 0 := wcode_yes hm (by rw [hNe]; exact hc)
    have h := nextOf_own va vr m c w' (Nat.lt_of_lt_of_le hB hb.size) (hT.below hb hB) (hV.below hb) hm; rw [hw, show nxtL m c = nextL m c by unfold nxtL; rw [if_pos hw]] at h
    exact h
  have HIn : Hid (∀ x y : Int, 0 <= x /\ x < N -> y ∈ nextL m x -> 0 <= y /\ y < N) := fun x y hx hy => by rw [<- hNe] at hx ⊢; exact nextL_in hm hx hy
  have HLe : Hid (∀ x : Int, 0 <= x /\ x < N -> (nextL m x).length <= 20) := fun x hx => by
    have hw : wcode m x = 0 := wcode_yes hm (by rw [hNe]; exact hx)
    have h1 := nxtL_length m x; rw [show nxtL m x = nextL m x by unfold nxtL; rw [if_pos hw]] at h1
    have h2 := (mcode_rules hm).1; omega
  rw [hNe] at hf1 hN ⊢; rw [Int.toNat_natCast]; obtain ⟨ao, cap, rfl⟩ := hV.1.shape; obtain ⟨ro, rc, rfl⟩ := hV.2.shape; generalize firstC m = first at *; generalize nextL m = nx at *; obtain ⟨hN0, hN1⟩ := hN; clear hV hT hm hNe; generalize m.vars.length = n at *; generalize m.rules.length = rn at *; have hmm := @run_makeMap Tryz.prog; obtain ⟨i0, hi, hz0, hz1, hz2⟩ := info_parts infoInt
  have hlen : first <= 5000 := by omega
  go_enter Tryz.func12, Tryz.ntmps12
  go_wp2_with (first | (go_at_call 23; refine (hfi _).mono ?_; rintro e w1 ⟨rfl, hb1⟩; have h0 := World.ownsMap_made w1 Tryz.prog 3 (plainElem (H := Unit) Tryz.prog 3)) | (refine wpList_insert_own _ rfl _ _ _ 85 rfl 3 3 keyInt Tryz.underlying85 (plainElem Tryz.prog 3) w1.heap.size 0 _ rfl h0 (by unfold maxLen; omega) _ _ _ rfl rfl (keyS first ⟨hf0, hlen⟩) _ [] (plainElem_int Tryz.underlying3 (by decide)) ?_; intro w2 hm2 hg2))
  have hb2 : Below w1.heap.size w1 w2 := ((Below.refl _ _).alloc (Nat.le_refl _) _).grown hg2 (by simp) (fun z hz => by rw [<- Option.some.inj hz]; exact Nat.le_refl _)
  have hs2 : w1.heap.size + 1 <= w2.heap.size := by have := hg2.size; simp at this; omega
  have hA2 : ∀ o, Below w2.heap.size w2 (w2.alloc o) := fun o => (Below.refl _ _).alloc (Nat.le_refl _) o
  have hbw1 := (hA _).trans (hb1.mono (hA _).size); have hs1 : w.heap.size < w1.heap.size := by have := hb1.size; simp at this; omega
  have k10 : w1.cell? ⟨w.heap.size, 0, none⟩ = some (.slice ao n cap) := (hb1.cell (p := ⟨w.heap.size, 0, none⟩) (by simp)).trans (by simp [go_sem])
  have k11 : w1.cell? ⟨w.heap.size, 1, none⟩ = some (.slice ro rn rc) := (hb1.cell (p := ⟨w.heap.size, 1, none⟩) (by simp)).trans (by simp [go_sem])
  have HK1 : Hid (∀ w', Below w1.heap.size w1 w' -> w'.cell? ⟨w.heap.size, 0, none⟩ = some (.slice ao n cap) /\ w'.cell? ⟨w.heap.size, 1, none⟩ = some (.slice ro rn rc)) := fun w' hb => ⟨(hb.cell (p := ⟨w.heap.size, 0, none⟩) hs1).trans k10, (hb.cell (p := ⟨w.heap.size, 1, none⟩) hs1).trans k11⟩
  have HB1 : Hid (Below w.heap.size w w1) := hbw1
  have HM0 : Hid (Met nx first N w1.heap.size w1 (w2.alloc (.cells #[.int .i64 first] 3)) (.slice (some ⟨w2.heap.size, 0, none⟩) 1 1) [first] 0) := ⟨by simp, by simp, fun x hx => by simp at hx; subst hx; exact ⟨⟨hf0, hf1⟩, .first⟩, fun i hi => by omega, World.ownsRow_lit w2 #[.int .i64 first] 1 hs2 (by decide) rfl, by simp, (MetIs.put (l := []) h0 (fun y _ => by simp [Maps.has]) hm2).below (hA2 _), hb2.trans ((hA2 _).mono hb2.size)⟩
  clear hmm hfi hb1 h0 hm2 hg2 hb2 hbw1 k10 k11 hA2
  go_loopw [7, 8] (fun v i wr => ∃ p : Nat, p <= N /\ i = .int .i64 p /\ Hid (MetTo nx first N w1.heap.size w1 wr v p)) (fun _ i _ => N - (intOf i).toNat)
  case atStart => exact ⟨0, Nat.zero_le _, rfl, [first], by simp, HM0.out⟩
  case round =>
    obtain ⟨p, hp, rfl, HM⟩ := hrel; obtain ⟨R, hpR, hM⟩ := HM.out; obtain ⟨g, gc, rfl, hg, hgl⟩ := hM.form; have hRN := hM.length; have hbw := HB1.out.trans (hM.bel.mono HB1.out.size); obtain ⟨kr0, kr1⟩ := HK1.out wr hM.bel; obtain ⟨L, hL⟩ : ∃ L, L = R.length := ⟨_, rfl⟩
    have HL : Hid (L = R.length) := hL; have HMe : Hid (Met nx first N w1.heap.size w1 wr (.slice (some ⟨g, 0, none⟩) L gc) R p) := by rw [hL]; exact hM
    rw [<- hL] at hpR hRN ⊢
    by_cases hlt : p < L
    · have hp' : p < R.length := by rw [<- HL.out]; exact hlt
      have hc : wr.cell? ⟨g, p, none⟩ = some (.int .i64 (R.getD p 0)) := by
        have := hM.own.cellAt p (by omega)
        rw [this]; simp [ivals, List.getD_eq_getElem?_getD, hp']
      have hxin := (hM.all (R.getD p 0) (by rw [show R.getD p 0 = R[p] by simp [List.getD_eq_getElem?_getD, hp']]; exact List.getElem_mem _)).1
      have hne := HNx.out wr.drew hbw.drew (R.getD p 0) hxin; have HX : Hid (∀ w4, Below wr.heap.size wr w4 -> MetAt nx first N w1.heap.size w1 w4 (.slice (some ⟨g, 0, none⟩) L gc) p (R.getD p 0) (nx (R.getD p 0)) 0) := fun w4 hb => ⟨R, hp', rfl, fun j hj => by omega, HMe.out.below hb⟩
      generalize R.getD p 0 = x at hc hxin hne HX; clear hM hL hpR HM hp' HMe
      have hS : ∀ w', Below wr.heap.size wr w' -> w'.cell? ⟨w.heap.size, 0, none⟩ = some (.slice ao n cap) /\ w'.cell? ⟨w.heap.size, 1, none⟩ = some (.slice ro rn rc) /\ w'.cell? ⟨g, p, none⟩ = some (.int .i64 x) := fun w' hb => ⟨(hb.cell (p := ⟨w.heap.size, 0, none⟩) (World.block_lt_of_cell? wr _ kr0)).trans kr0, (hb.cell (p := ⟨w.heap.size, 1, none⟩) (World.block_lt_of_cell? wr _ kr1)).trans kr1, (hb.cell (p := ⟨g, p, none⟩) hgl).trans hc⟩
      go_wp2_with fail
      go_region_held3 (fun w' => w'.cell? ⟨w.heap.size, 0, none⟩ = some (.slice ao n cap) /\ w'.cell? ⟨w.heap.size, 1, none⟩ = some (.slice ro rn rc) /\ w'.cell? ⟨g, p, none⟩ = some (.int .i64 x)) (exact hS _ (by first | exact (Below.refl _ _).drew | exact undrewB hb4 | exact Below.refl _ _)) (first | (go_at_call 24; refine hne.mono ?_; rintro e w4 ⟨nv, rfl, hb4, hI4, ho4⟩; obtain ⟨no, nc, rfl⟩ := hI4.shape))
      have hb4' := undrewB hb4; obtain ⟨nn, hnn⟩ : ∃ nn, nn = (nx x).length := ⟨_, rfl⟩
      have HNN : Hid (nn = (nx x).length) := hnn; have HO4 : Hid (w4.ownsRow wr.heap.size 3 1 (.slice no nn nc) nn (ivals (nx x))) := by rw [hnn]; exact ho4
      have HNxi : Hid (∀ j, j < nn -> (0 <= (nx x).getD j 0 /\ (nx x).getD j 0 < N) /\ (nx x).getD j 0 ∈ nx x) := fun j hj => by
        have hm : (nx x).getD j 0 ∈ nx x := by rw [List.getD_eq_getElem?_getD, List.getElem?_eq_getElem (by rw [<- hnn]; exact hj)]; exact List.getElem_mem _
        exact ⟨HIn.out x _ hxin hm, hm⟩
      have hrow : g < wr.heap.size := hgl; have HX4 : Hid (MetAt nx first N w1.heap.size w1 w4 (.slice (some ⟨g, 0, none⟩) L gc) p x (nx x) 0) := HX.out w4 hb4'; rw [<- hnn]
      have hbs : w1.heap.size < wr.heap.size := by
        obtain ⟨R', _, _, _, hM'⟩ := HX.out wr (Below.refl _ _); obtain ⟨D', h1', _⟩ := hM'.met; exact World.ownsMap.lt h1'
      have HI0 : Hid (MIn nx first N w1.heap.size w1 w4 (.slice (some ⟨g, 0, none⟩) L gc) p x (nx x) 0 wr.heap.size w4.heap.size (.slice no nn nc)) := ⟨HX4.out, ⟨g, gc, L, rfl, .inl hgl⟩, by rw [<- hnn]; exact HO4.out, Nat.le_refl _, fun k hk => (HO4.out.lt k hk).2, hbs⟩
      have hbs4 := hb4'.size; have hnn20 : nn <= 20 := by rw [hnn]; exact HLe.out x hxin
      clear hnn hI4 ho4 hS hne HX kr0 kr1 hc hb4 hrow HO4 HX4
      go_wp2_with fail
      generalize wr.heap.size = bs at *; generalize wr = wo at *
      go_loopw [7, 48] (fun v i wr => ∃ q : Nat, q <= nn /\ i = .int .i64 q /\ Hid (MIn nx first N w1.heap.size w1 wr v p x (nx x) q bs w4.heap.size (.slice no nn nc))) (fun _ i _ => nn - (intOf i).toNat)
      case atStart => exact ⟨0, Nat.zero_le _, rfl, HI0⟩
      case round =>
        obtain ⟨q, hq, rfl, HQ⟩ := hrel; obtain ⟨⟨R, hpR, hRx, hin, hM⟩, ⟨g2, gc2, n2, rfl, hg2⟩, how, hh4, hnvl, hbs2⟩ := HQ.out
        have hn2 : n2 = R.length := by
          obtain ⟨ga, ca, e1, _⟩ := hM.form
          injection e1 with _ e2 _
        subst hn2; have hRN := hM.length
        by_cases hlq : q < nn
        · obtain ⟨⟨hy0, hy1⟩, hymem⟩ := HNxi.out q hlq
          have hnvq : ∃ nb, no = some ⟨nb, 0, none⟩ /\ wr.cell? ⟨nb, q, none⟩ = some (.int .i64 ((nx x).getD q 0)) := by
            rcases how.2 with ⟨e, h0⟩ | ⟨nb, cap, cur, e, _⟩
            · have := HNN.out; omega
            · injection e with e1 _ _
              subst e1; refine ⟨nb, rfl, ?_⟩
              have how' : wr.ownsRow bs 3 1 (.slice (some ⟨nb, 0, none⟩) (nx x).length nc) (nx x).length (ivals (nx x)) := by rw [HNN.out] at how; exact how
              have hql : q < (nx x).length * 1 := by have := HNN.out; omega
              rw [how'.cellAt q hql]; have : q < (nx x).length := by rw [<- HNN.out]; exact hlq
              simp [ivals, List.getD_eq_getElem?_getD, this]
          obtain ⟨nb, rfl, hcy⟩ := hnvq; have HMi := hin; obtain ⟨D, hown, hhas⟩ := hM.met; have hk1 := keyS ((nx x).getD q 0) ⟨hy0, by omega⟩
          have hh := hhas ((nx x).getD q 0) ⟨hy0, by omega⟩
          by_cases hyR : (nx x).getD q 0 ∈ R
          · have HN : Hid (MIn nx first N w1.heap.size w1 wr (.slice (some ⟨g2, 0, none⟩) R.length gc2) p x (nx x) (q + 1) bs w4.heap.size (.slice (some ⟨nb, 0, none⟩) nn nc)) := ⟨⟨R, hpR, hRx, fun j hj => by
                by_cases hjq : j < q
                · exact hin j hjq
                · obtain rfl : j = q := by omega
                  exact hyR, hM⟩, ⟨g2, gc2, _, rfl, hg2⟩, how, hh4, hnvl, hbs2⟩
            rw [decide_eq_true hyR] at hh; generalize (nx x).getD q 0 = y at *; generalize R.length = L2 at *; clear HQ hin hM hhas HMi how hRx hyR hymem
            go_wp2_with (at_lookup; refine wpList_lookup_own_ok_int _ rfl _ _ 85 rfl 3 3 .i64 keyInt Tryz.underlying85 Tryz.underlying3 (zeroInt _) w1.heap.size _ D rfl hown _ _ rfl hk1 ?_; intro c hat hwc; rw [hh]; clear hat hwc)
            go_roundw
            case rel => exact ⟨q + 1, hlq, by go_num, HN⟩
            case measure => simp [intOf]; omega
          · rw [decide_eq_false hyR] at hh
            have hyr : RSt nx first ((nx x).getD q 0) := RSt.next (hM.all x (by rw [<- hRx, List.getD_eq_getElem?_getD, List.getElem?_eq_getElem hpR]; exact List.getElem_mem _)).2 hymem
            have HN : Hid (∀ (w5 w6 : World) (o : Obj) (g6 c6 : Nat), w5.ownsMap Tryz.prog 3 (plainElem Tryz.prog 3) w1.heap.size (R.length + 1) (D.put (.int .i64 ((nx x).getD q 0)) (.lit (.int .i64 (R.length : Int)))) -> wr.grownBy w5 (some w1.heap.size) -> (w5.alloc o).grownBy w6 (some g2) -> w6.ownsRow (w1.heap.size + 1) 3 1 (.slice (some ⟨g6, 0, none⟩) (R.length + 1) c6) (R.length + 1) (ivals R ++ [.int .i64 ((nx x).getD q 0)]) -> (g2 = g6 \/ g6 = (w5.alloc o).heap.size) -> MIn nx first N w1.heap.size w1 w6 (.slice (some ⟨g6, 0, none⟩) (R.length + 1) c6) p x (nx x) (q + 1) bs w4.heap.size (.slice (some ⟨nb, 0, none⟩) nn nc)) := fun w5 w6 o g6 c6 h1 h2 h3 h4 h5 => MIn.put hpR hRx hin hM ⟨hy0, hy1⟩ hyr hyR hhas hown hg2 how hh4 hnvl hbs2 rfl h1 h2 h3 h4 h5
            have hownL := hM.own; have hlt2 := hownL.lt; generalize (nx x).getD q 0 = y at *; obtain ⟨L2, hL2⟩ : ∃ L2, L2 = R.length := ⟨_, rfl⟩
            rw [<- hL2] at HN hown hownL hRN hlt2 ⊢; have hkm : L2 < maxLen := by unfold maxLen; omega
            have h63 : L2 + 1 <= maxLen := by unfold maxLen; omega
            have hkb : (L2 + 1) * 8 <= 140737488355328 := by omega
            have hwf : (Lit.int .i64 (L2 : Int)).wf = true := WalkArith.wf_i64 (by omega)
            have hszr : w1.heap.size + 1 <= wr.heap.size := by omega
            clear HQ hin hM hhas HMi how hRx hyR hymem hyr hL2
            go_wp2_with (first
              | (at_lookup; refine wpList_lookup_own_ok_int _ rfl _ _ 85 rfl 3 3 .i64 keyInt Tryz.underlying85 Tryz.underlying3 (zeroInt _) w1.heap.size _ D rfl hown _ _ rfl hk1 ?_; intro c hat hwc; rw [hh]; clear hat hwc)
              | (at_mapUpdate; refine wpList_mapUpdate_own _ rfl _ _ _ 85 rfl 3 3 keyInt Tryz.underlying85 _ w1.heap.size L2 D rfl hown hkm _ _ _ rfl rfl hk1 _ [] (plainElem_int Tryz.underlying3 hwf) ?_; intro w5 hown5 hg5; have how5 := fun o => (hownL.kept hg5 (.inr (fun e => by have := (hlt2 w1.heap.size e).1; omega))).alloc o; have hsz5 := hg5.size; have hbase : ∀ o, w1.heap.size + 1 <= (w5.alloc o).heap.size := (fun o => by simp; omega))
              | (at_builtin; refine wpList_append_lies _ rfl (.tmp 64) (.tmp 66) 46 rfl (w1.heap.size + 1) 3 i0 (.int .i64 0) 1 8 Tryz.underlying46 hi hz0 hz1 hz2 rfl (by decide) (.slice (some ⟨g2, 0, none⟩) L2 gc2) L2 _ rfl (how5 _) ⟨w5.heap.size, 0, none⟩ 1 1 [.int .i64 y] rfl rfl (cell_one_new _ _ _) (by intro u hu; simp at hu; subst hu; rfl) (by decide) h63 hkb (hbase _) _ rfl ?_; intro g6 c6 w6 hown6 hg6 hor6 hlt6))
            have HN6 : Hid (MIn nx first N w1.heap.size w1 w6 (.slice (some ⟨g6, 0, none⟩) (L2 + 1) c6) p x (nx x) (q + 1) bs w4.heap.size (.slice (some ⟨nb, 0, none⟩) nn nc)) := HN.out w5 w6 _ g6 c6 hown5 hg5 hg6 hown6 (by rcases hor6 with h | h; exact .inl (by simpa [Value.ownBlock] using h); exact .inr h)
            go_roundw
            case rel => exact ⟨q + 1, hlq, by go_num, HN6⟩
            case measure => simp [intOf]; omega
        · obtain rfl : q = nn := by omega
          have HN : Hid (MetTo nx first N w1.heap.size w1 wr (.slice (some ⟨g2, 0, none⟩) R.length gc2) (p + 1)) := ⟨R, hpR, hM.nodup, hM.fst, hM.all, fun i hi => by
            by_cases hip : i < p
            · exact hM.closed i hip
            · obtain rfl : i = p := by omega
              intro y hy; rw [hRx] at hy; obtain ⟨j, hj, rfl⟩ := List.getElem_of_mem hy; have := hin j (by rw [HNN.out]; exact hj)
              rwa [List.getD_eq_getElem?_getD, List.getElem?_eq_getElem hj] at this, hM.own, hM.ne, hM.met, hM.bel⟩
          have hpN : p + 1 <= N := by omega
          generalize R.length = L2 at *; clear HQ hin hM how hRx
          go_wp2_with fail
          go_roundw
          case rel => exact ⟨p + 1, hpN, by go_num, HN⟩
          case measure => simp [intOf]; omega
    · have hpl : p = L := by omega
      subst hpl
      have HRes : Hid (R.mergeSort leB = reachN nx first N) := by
        refine rise_eq (sorted_rise hM.nodup) (reachN_rise _ _ _) fun y => ?_
        rw [reachN_mem, (List.mergeSort_perm R leB).mem_iff]
        have hc := closed_reach (nx := nx) (l := R) hM.fst (fun x hx => (hM.all x hx).2) (fun x hx y hy => by
          obtain ⟨i, hi, rfl⟩ := List.getElem_of_mem hx
          exact hM.closed i (by rw [HL.out]; exact hi) y (by rw [List.getD_eq_getElem?_getD, List.getElem?_eq_getElem hi]; exact hy))
        rw [hc y]; exact ⟨fun h => ⟨h.in ⟨hf0, hf1⟩ HIn.out, h⟩, fun h => h.2⟩
      have hown := HMe.out.own; have hso := sort_own g gc (w1.heap.size + 1) R wr (by rw [<- HL.out]; omega) (by rw [HL.out] at hown; exact hown)
      rw [<- HL.out] at hso; clear hM HMe HM hown hL
      go_wp2_with (go_at_call 25; refine hso.mono ?_; rintro e w6 ⟨rfl, hgr6, ho6⟩)
      go_ret2
      refine ⟨_, rfl, ?_, ?_⟩
      · exact hbw.grown hgr6 hbw.size (fun z hz => by rw [<- Option.some.inj hz]; have := HB1.out.size; omega)
      · rw [<- HRes.out]
        exact intsV_of_owns (by rw [List.length_mergeSort, <- HL.out]; exact ho6)
theorem reach_any (va vr : Value) (m : Mo) (w : World) (hB : 0 < w.heap.size) (hT : TabAt w) (hV : ModelV w va vr m) :
    Calls Tryz.prog 12 #[.agg #[va, vr]] w fun e w' => ∃ v, e = .returned (.tuple #[v, .int .i64 (mcode m)]) /\ Below w.heap.size w w' /\ IntsV w' v (reachL m) := by
  by_cases hm : mcode m = 0
  · have h := reach_loop va vr m w hB hT hV hm
    unfold reachL; rw [if_pos hm, hm]; exact h
  · have hA : ∀ o, Below w.heap.size w (w.alloc o) := fun o => (Below.refl _ _).alloc (Nat.le_refl _) o
    have hfi := fun o => mfirst_any va vr m (w.alloc o) (Nat.lt_of_lt_of_le hB (hA o).size) (hT.below (hA o) hB) (hV.below (hA o))
    have hRL : reachL m = [] := by unfold reachL; rw [if_neg hm]
    rw [if_neg hm] at hfi; rw [hRL]; obtain ⟨ao, cap, rfl⟩ := hV.1.shape; obtain ⟨ro, rc, rfl⟩ := hV.2.shape; generalize mcode m = c at *; generalize m.vars.length = n at *; generalize m.rules.length = rn at *; clear hV hRL hT
    go_enter Tryz.func12, Tryz.ntmps12
    go_wp2_with (go_at_call 23; refine (hfi _).mono ?_; rintro e w1 ⟨rfl, hb1⟩)
    go_ret2
    exact ⟨_, rfl, (hA _).trans (hb1.mono (hA _).size), none, 0, rfl, fun h => absurd rfl h⟩
end Go.Proofs.YtobopjjmhginlabGreatDoor
