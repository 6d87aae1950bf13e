import Derived.Test.YtobopjjmhginlaaGreatDoorPSurv
import Derived.Test.YtobopjjmhginlaaGreatDoorPMap
import Derived.Test.YtobopjjmhginlaaGreatDoorPSign
import Derived.Test.YtobopjjmhginlaaGreatDoorPBegin
import Derived.Test.YtobopjjmhginlaaGreatDoorPNext
namespace Go.Proofs.YtobopjjmhginlaaGreatDoor
open Go.ChangeShapes Go.WideShapes Go.ChangeAt Go.RowKit Go.Deep Go.Maps
open Terms Tm
set_option maxHeartbeats 6400000
set_option maxRecDepth 20000
variable {Pz : Nat -> Prop}
noncomputable def sgAt (l : List (Int × Int)) (lt : List Bool) (c : Nat) : Int := signN l (tru l lt (c : Int))
noncomputable def sgL (l : List (Int × Int)) (lt : List Bool) : List Int := (List.range (2 ^ (aheadL l).length)).map fun (c : Nat) => sgAt l lt c
theorem sgL_len (l : List (Int × Int)) (lt : List Bool) : (sgL l lt).length = 2 ^ (aheadL l).length := by simp [sgL]
theorem sgL_at {l : List (Int × Int)} {lt : List Bool} {c : Nat} (h : c < 2 ^ (aheadL l).length) : (sgL l lt).getD c 0 = sgAt l lt c := by simp [sgL, List.getD_eq_getElem?_getD, h]
theorem BoolsV.sk {bs bl : Nat} {w w' : World} {v : Value} {x : List Bool} (h : BoolsV w v x) (hs : Sk bs bl w w') (hm : TwoMaps w bs bl) : BoolsV w' v x := by
  obtain ⟨ao, cap, rfl, h⟩ := h; refine ⟨ao, cap, rfl, fun hne => ?_⟩
  obtain ⟨b, off, rfl, hlt, hat⟩ := h hne; exact ⟨b, off, rfl, Nat.lt_of_lt_of_le hlt hs.size, fun i hi => hs.cell hm (hat i hi)⟩
theorem IntsV.sk {bs bl : Nat} {w w' : World} {v : Value} {x : List Int} (h : IntsV w v x) (hs : Sk bs bl w w') (hm : TwoMaps w bs bl) : IntsV w' v x := by
  obtain ⟨ao, cap, rfl, h⟩ := h; refine ⟨ao, cap, rfl, fun hne => ?_⟩
  obtain ⟨b, off, rfl, hlt, hat⟩ := h hne; exact ⟨b, off, rfl, Nat.lt_of_lt_of_le hlt hs.size, fun i hi => hs.cell hm (hat i hi)⟩
theorem SurvAt.sk {bs bl : Nat} {w w' : World} {B : Nat} {va vr pv fv av : Value} (h : SurvAt w B va vr pv fv av bs bl) (hs : Sk bs bl w w') (hm : TwoMaps w bs bl) : SurvAt w' B va vr pv fv av bs bl :=
  ⟨Nat.lt_of_lt_of_le h.lt hs.size, hs.cell hm h.c0, hs.cell hm h.c1, hs.cell hm h.c2, hs.cell hm h.c3, hs.cell hm h.c4, hs.cell hm h.c5, hs.cell hm h.c6⟩
theorem SpO.sk {bs bl : Nat} {w w' : World} {base : Nat} {v : Value} {x : List (Int × Int)} (h : SpO w base v x) (hs : Sk bs bl w w') (hm : TwoMaps w bs bl) : SpO w' base v x := by
  refine ⟨h.1, ?_⟩
  rcases h.2 with h0 | ⟨g, cap, cur, h1, h2, h3, h4⟩
  · exact .inl h0
  · refine .inr ⟨g, cap, cur, h1, h2, ?_, h4⟩
    obtain ⟨⟨es, c, e1⟩, ⟨es', c', e2⟩⟩ := hm; rw [hs.block g (Array.getElem?_eq_some_iff.1 h3).1 (fun e => by subst e; rw [e1] at h3; simp at h3) (fun e => by subst e; rw [e2] at h3; simp at h3)]
    exact h3
theorem RowTy.sk {bs bl : Nat} {w w' : World} {v : Value} {t : TypeId} (h : RowTy w v t) (hs : Sk bs bl w w') (hm : TwoMaps w bs bl) : RowTy w' v t := by
  intro a n c e; obtain ⟨cs, fr, h1⟩ := h a n c e; obtain ⟨⟨es, cl, e1⟩, ⟨es', cl', e2⟩⟩ := hm; refine ⟨cs, fr, ?_⟩
  rw [hs.block a.block (Array.getElem?_eq_some_iff.1 h1).1 (fun e => by rw [e, e1] at h1; simp at h1) (fun e => by rw [e, e2] at h1; simp at h1)]
  exact h1
theorem RowTy.below {w w' : World} {v : Value} {t : TypeId} (h : RowTy w v t) (hb : Below w.heap.size w w') : RowTy w' v t := by
  intro a n c e; obtain ⟨cs, fr, h1⟩ := h a n c e; exact ⟨cs, fr, (hb.block _ (Array.getElem?_eq_some_iff.1 h1).1).trans h1⟩
theorem RowTy.setCell {w : World} {v : Value} {t : TypeId} (h : RowTy w v t) (b i : Nat) (u : Value) : RowTy (w.setCell ⟨b, i, none⟩ u) v t := by
  intro a n c e; obtain ⟨cs, fr, h1⟩ := h a n c e
  by_cases hp : a.block = b
  · refine ⟨cs.setIfInBounds i u, fr, ?_⟩
    simp [World.setCell, Array.getElem?_modify, <- hp, h1]
  · exact ⟨cs, fr, (RowKit.Below.heap_setCell _ _ _ _ hp).trans h1⟩
theorem RowTy.grown {w w' : World} {v : Value} {t t' : TypeId} {own : Option Nat} (h : RowTy w v t) (hg : w.grownBy w' own) (ht : t ≠ t') (ho : ∀ g, own = some g -> ∃ cs fr, w.heap[g]? = some (.cells cs t' fr)) : RowTy w' v t := by
  intro a n c e; obtain ⟨cs, fr, h1⟩ := h a n c e; refine ⟨cs, fr, (hg.block _ (Array.getElem?_eq_some_iff.1 h1).1 (fun e2 => ?_)).trans h1⟩
  obtain ⟨cs', fr', h2⟩ := ho _ e2.symm; rw [h1] at h2
  injection h2 with h2
  injection h2 with _ h3 _
  exact ht h3
theorem RowTy.owns {w : World} {base n : Nat} {v : Value} {t : TypeId} {s : Nat} {xs : List Value} (h : w.ownsRow base t s v n xs) : RowTy w v t := by
  intro a k c e
  rcases h.2 with ⟨h0, _⟩ | ⟨g, cap, cur, h1, _, h3, _⟩
  · rw [h0] at e; simp at e
  · rw [h1] at e
    injection e with e _ _
    injection e with e
    subst e; exact ⟨cur, _, h3⟩
theorem BoolsV.grown {w w' : World} {v : Value} {x : List Bool} {own : Option Nat} (h : BoolsV w v x) (hty : RowTy w v 4) (hg : w.grownBy w' own) (ho : ∀ g, own = some g -> ∃ cs fr, w.heap[g]? = some (.cells cs 87 fr)) : BoolsV w' v x := by
  obtain ⟨ao, cap, rfl, h⟩ := h; refine ⟨ao, cap, rfl, fun hne => ?_⟩
  obtain ⟨b, off, rfl, hlt, hat⟩ := h hne; refine ⟨b, off, rfl, Nat.lt_of_lt_of_le hlt hg.size, fun i hi => ?_⟩
  obtain ⟨cs, fr, h1⟩ := hty _ _ _ rfl
  rw [World.cell?_of_block (hg.block b hlt (fun e2 => by
    obtain ⟨cs', fr', h2⟩ := ho _ e2.symm; rw [h1] at h2
    injection h2 with h2
    injection h2 with _ h3 _
    exact absurd h3 (by decide)))]
  exact hat i hi
theorem IntsV.grown {w w' : World} {v : Value} {x : List Int} {own : Option Nat} (h : IntsV w v x) (hty : RowTy w v 3) (hg : w.grownBy w' own) (ho : ∀ g, own = some g -> ∃ cs fr, w.heap[g]? = some (.cells cs 87 fr)) : IntsV w' v x := by
  obtain ⟨ao, cap, rfl, h⟩ := h; refine ⟨ao, cap, rfl, fun hne => ?_⟩
  obtain ⟨b, off, rfl, hlt, hat⟩ := h hne; refine ⟨b, off, rfl, Nat.lt_of_lt_of_le hlt hg.size, fun i hi => ?_⟩
  obtain ⟨cs, fr, h1⟩ := hty _ _ _ rfl
  rw [World.cell?_of_block (hg.block b hlt (fun e2 => by
    obtain ⟨cs', fr', h2⟩ := ho _ e2.symm; rw [h1] at h2
    injection h2 with h2
    injection h2 with _ h3 _
    exact absurd h3 (by decide)))]
  exact hat i hi
def StOk (Pz : Nat -> Prop) (w : World) (m : Mo) (ps : List (List (Int × Int))) (l : List (Int × Int)) (code : Int) (v : Value) : Prop :=
  ∃ lo lc no nc so sc, v = .agg #[.slice lo ps.length lc, .slice no (nextL m code).length nc, .slice so (2 ^ (aheadL l).length) sc] /\ BoolsV w (.slice lo ps.length lc) (letL m ps code) /\ IntsV w (.slice no (nextL m code).length nc) (nextL m code) /\ IntsV w (.slice so (2 ^ (aheadL l).length) sc) (sgL l (letL m ps code)) /\ RowTy w (.slice lo ps.length lc) 4 /\ RowTy w (.slice no (nextL m code).length nc) 3 /\ RowTy w (.slice so (2 ^ (aheadL l).length) sc) 3 /\ (∀ a, no = some a -> Pz a.block) /\ (∀ a, so = some a -> Pz a.block)
theorem StOk.sk {bs bl : Nat} {w w' : World} {m : Mo} {ps : List (List (Int × Int))} {l : List (Int × Int)} {code : Int} {v : Value} (h : StOk Pz w m ps l code v) (hs : Sk bs bl w w') (hm : TwoMaps w bs bl) : StOk Pz w' m ps l code v := by
  obtain ⟨lo, lc, no, nc, so, sc, h1, h2, h3, h4, h5, h6, h7, h8⟩ := h; exact ⟨lo, lc, no, nc, so, sc, h1, h2.sk hs hm, h3.sk hs hm, h4.sk hs hm, h5.sk hs hm, h6.sk hs hm, h7.sk hs hm, h8⟩
theorem StOk.below {w w' : World} {m : Mo} {ps : List (List (Int × Int))} {l : List (Int × Int)} {code : Int} {v : Value} (h : StOk Pz w m ps l code v) (hb : Below w.heap.size w w') : StOk Pz w' m ps l code v := by
  obtain ⟨lo, lc, no, nc, so, sc, h1, h2, h3, h4, h5, h6, h7, h8⟩ := h; exact ⟨lo, lc, no, nc, so, sc, h1, h2.below hb, h3.below hb, h4.below hb, h5.below hb, h6.below hb, h7.below hb, h8⟩
theorem StOk.grown {w w' : World} {m : Mo} {ps : List (List (Int × Int))} {l : List (Int × Int)} {code : Int} {v : Value} {own : Option Nat} (h : StOk Pz w m ps l code v) (hg : w.grownBy w' own) (ho : ∀ g, own = some g -> ∃ cs fr, w.heap[g]? = some (.cells cs 87 fr)) : StOk Pz w' m ps l code v := by
  obtain ⟨lo, lc, no, nc, so, sc, h1, h2, h3, h4, h5, h6, h7, h8⟩ := h; exact ⟨lo, lc, no, nc, so, sc, h1, h2.grown h5 hg ho, h3.grown h6 hg ho, h4.grown h7 hg ho, h5.grown hg (by decide) ho, h6.grown hg (by decide) ho, h7.grown hg (by decide) ho, h8⟩
def six (x : List Bool) : List Bool := x ++ List.replicate (6 - x.length) false
def linkV (x : List Bool) (c sg : Int) : Value := .agg ((six x).map Value.bool ++ [Value.int .i64 c, Value.int .i64 sg]).toArray
theorem linkV_inj {x y : List Bool} {c d s t : Int} (hl : x.length = y.length) (h : linkV x c s = linkV y d t) : x = y /\ c = d /\ s = t := by
  unfold linkV at h
  injection h with h
  have h1 := congrArg Array.toList h; have hs : ((six x).map Value.bool).length = ((six y).map Value.bool).length := by simp [six, hl]
  obtain ⟨h2, h3⟩ := List.append_inj h1 hs
  have h4 : six x = six y := by
    have := List.map_inj_right (f := Value.bool) (fun a b hab => by injection hab) |>.1 h2
    exact this
  unfold six at h4; have h5 := (List.append_inj h4 hl).1; simp at h3
  exact ⟨h5, h3.1, h3.2⟩
def LinkOk (ps : List (List (Int × Int))) (l : List (Int × Int)) (kl : Lit) (v : Value) : Prop :=
  ∃ (x : List Bool) (c sg : Int) (b : Bool), x.length = ps.length /\ keyOf Tryz.prog 166 (linkV x c sg) = some kl /\ v = .agg #[.bool b] /\ ∀ (y : List Bool) (d : Int), y.length = ps.length -> tcode l y d = 0 -> signN l (tru l y d) = sg -> folR l x c y d = b
structure SvOk (Pz : Nat -> Prop) (w0 w : World) (B bs bl n : Nat) (va vr pv fv : Value) (m : Mo) (ps : List (List (Int × Int))) (l : List (Int × Int)) (ho : Option Addr) (hc : Nat) : Prop where
  box : SurvAt w B va vr pv fv (.slice ho (aheadL l).length hc) bs bl
  bel : Below w0.heap.size w0 w
  lo1 : w0.heap.size <= bs
  lo2 : w0.heap.size <= bl
  ne : bs ≠ bl
  ah : IntsV w (.slice ho (aheadL l).length hc) (aheadL l)
  aty : RowTy w (.slice ho (aheadL l).length hc) 3
  up : ∀ b, w.heap.size <= b -> Pz b
  aP : ∀ a, ho = some a -> Pz a.block
  st : ∃ f, MapIs w 3 bs n f /\ ∀ kl v, f kl = some v -> ∃ code, kl = .int .i64 code /\ (0 <= code /\ code < prodTo m.vars m.vars.length) /\ StOk Pz w m ps l code v
  li : ∃ f, MapIs w 166 bl n f /\ ∀ kl v, f kl = some v -> LinkOk ps l kl v
section
variable {w0 w w' : World} {B bs bl n : Nat} {va vr pv fv : Value} {m : Mo} {ps : List (List (Int × Int))} {l : List (Int × Int)} {ho : Option Addr} {hc : Nat}
theorem SvOk.two (h : SvOk Pz w0 w B bs bl n va vr pv fv m ps l ho hc) : TwoMaps w bs bl := by
  obtain ⟨f, h1, _⟩ := h.st; obtain ⟨g, h2, _⟩ := h.li; exact ⟨h1.isMap, h2.isMap⟩
theorem SvOk.below (h : SvOk Pz w0 w B bs bl n va vr pv fv m ps l ho hc) (hb : Below w.heap.size w w') : SvOk Pz w0 w' B bs bl n va vr pv fv m ps l ho hc := by
  obtain ⟨f, h1, h2⟩ := h.st; obtain ⟨g, h3, h4⟩ := h.li; refine ⟨h.box.later hb, h.bel.trans (hb.mono h.bel.size), h.lo1, h.lo2, h.ne, h.ah.below hb, h.aty.below hb, fun b hb2 => h.up b (Nat.le_trans hb.size hb2), h.aP, ⟨f, h1.kept (hb.block _ h1.lt), fun kl v hv => ?_⟩, ⟨g, h3.kept (hb.block _ h3.lt), h4⟩⟩
  obtain ⟨code, e1, e2, e3⟩ := h2 kl v hv; exact ⟨code, e1, e2, e3.below hb⟩
theorem MapIs.mono {w : World} {kt : TypeId} {b n n' : Nat} {f : Lit -> Option Value} (h : MapIs w kt b n f) (hn : n <= n') : MapIs w kt b n' f := by
  obtain ⟨D, h1, h2⟩ := h; exact ⟨D, h1.mono hn, h2⟩
theorem SvOk.mono {n' : Nat} (h : SvOk Pz w0 w B bs bl n va vr pv fv m ps l ho hc) (hn : n <= n') : SvOk Pz w0 w B bs bl n' va vr pv fv m ps l ho hc := by
  obtain ⟨f, h1, h2⟩ := h.st; obtain ⟨g, h3, h4⟩ := h.li; exact ⟨h.box, h.bel, h.lo1, h.lo2, h.ne, h.ah, h.aty, h.up, h.aP, ⟨f, h1.mono hn, h2⟩, ⟨g, h3.mono hn, h4⟩⟩
theorem SvOk.putL (h : SvOk Pz w0 w B bs bl n va vr pv fv m ps l ho hc) {f : Lit -> Option Value} {kl : Lit} {v : Value} (hg : w.grownBy w' (some bl)) (h2 : ∀ kl v, f kl = some v -> LinkOk ps l kl v)
    (hm : MapIs w' 166 bl (n + 1) (fput f kl v)) (hv : LinkOk ps l kl v) : SvOk Pz w0 w' B bs bl (n + 1) va vr pv fv m ps l ho hc := by
  have hs : Sk bs bl w w' := Sk.grown hg (.inr rfl); have ht := h.two; obtain ⟨g, h3, h4⟩ := h.st
  refine ⟨h.box.sk hs ht, h.bel.trans (hs.below h.lo1 h.lo2 h.bel.size), h.lo1, h.lo2, h.ne, h.ah.sk hs ht, h.aty.sk hs ht, fun b hb2 => h.up b (Nat.le_trans hs.size hb2), h.aP, ⟨g, (h3.kept (hg.block _ h3.lt (by intro e; injection e with e; exact h.ne e))).mono (Nat.le_succ _), fun k u hu => ?_⟩, ⟨_, hm, fun k u hu => ?_⟩⟩
  · obtain ⟨c, e1, e2, e3⟩ := h4 k u hu
    exact ⟨c, e1, e2, e3.sk hs ht⟩
  · by_cases hk : k = kl
    · subst hk
      rw [fput_same] at hu
      cases hu
      exact hv
    · rw [fput_other hk] at hu
      exact h2 k u hu
theorem SvOk.spots {own : Option Nat} (h : SvOk Pz w0 w B bs bl n va vr pv fv m ps l ho hc) (hg : w.grownBy w' own) (hown : ∀ g, own = some g -> B < g /\ w0.heap.size <= g /\ ∃ cs fr, w.heap[g]? = some (.cells cs 87 fr)) : SvOk Pz w0 w' B bs bl n va vr pv fv m ps l ho hc := by
  have hty : ∀ g, own = some g -> ∃ cs fr, w.heap[g]? = some (.cells cs 87 fr) := fun g e => (hown g e).2.2
  have hbx : ∀ i v, w.cell? ⟨B, i, none⟩ = some v -> w'.cell? ⟨B, i, none⟩ = some v := fun i v hv => by
    rw [World.cell?_of_block (hg.block B h.box.lt (fun e => by have := (hown B e.symm).1; omega))]
    exact hv
  obtain ⟨f, h1, h2⟩ := h.st; obtain ⟨q, h3, h4⟩ := h.li
  have hms : ∀ b es c, w.heap[b]? = some (.map es c) -> b < w.heap.size -> w'.heap[b]? = w.heap[b]? := fun b es c e hlt => hg.block b hlt (fun e2 => by
    obtain ⟨cs, fr, e3⟩ := hty b e2.symm; rw [e] at e3
    simp at e3)
  obtain ⟨es1, c1, m1⟩ := h1.isMap; obtain ⟨es2, c2, m2⟩ := h3.isMap
  refine ⟨⟨Nat.lt_of_lt_of_le h.box.lt hg.size, hbx _ _ h.box.c0, hbx _ _ h.box.c1, hbx _ _ h.box.c2, hbx _ _ h.box.c3, hbx _ _ h.box.c4, hbx _ _ h.box.c5, hbx _ _ h.box.c6⟩, ?_, h.lo1, h.lo2, h.ne, h.ah.grown h.aty hg hty, h.aty.grown hg (by decide) hty, fun b hb2 => h.up b (Nat.le_trans hg.size hb2), h.aP, ⟨f, h1.kept (hms bs _ _ m1 h1.lt), fun kl v hv => ?_⟩, ⟨q, h3.kept (hms bl _ _ m2 h3.lt), h4⟩⟩
  · refine h.bel.trans ⟨hg.os, hg.tape, hg.output, hg.size, fun i hi => hg.block i (Nat.lt_of_lt_of_le hi h.bel.size) (fun e => by have := (hown i e.symm).2.1; omega)⟩
  · obtain ⟨code, e1, e2, e3⟩ := h2 kl v hv
    exact ⟨code, e1, e2, e3.grown hg hty⟩
end
end Go.Proofs.YtobopjjmhginlaaGreatDoor
