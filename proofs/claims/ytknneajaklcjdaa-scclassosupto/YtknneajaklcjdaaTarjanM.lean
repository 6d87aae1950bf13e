/-
  Plain mathematics of the walk that tells the parts of a graph.
-/
import Derived.Test.YtknneajaklcjdaaReachM
namespace Go.Proofs.Ytknneajaklcjdaa
open Terms

/-- the way down and what is open: frames, the last one first; a frame: a place of the way down, and what is open behind it, ahead of the next one of the way. -/
abbrev Frames := List (Nat × List Nat)
def opens : Frames → List Nat
  | [] => []
  | (d, r) :: F => opens F ++ (d :: r)
def downs : Frames → List Nat
  | [] => []
  | (d, _) :: F => downs F ++ [d]
def AboveF : Frames → Nat → Nat → Prop
  | [], _, _ => False
  | [_], _, _ => False
  | (d, _) :: (d', r') :: F, x, y => (x = d' ∧ y = d) ∨ AboveF ((d', r') :: F) x y
def ChainF (nx : Nat → List Nat) : Frames → Prop
  | [] => True
  | [_] => True
  | (d, _) :: (d', r') :: F => d ∈ nx d' ∧ ChainF nx ((d', r') :: F)
/-- the least place that a place reaches and that reaches it. -/
def PartIs (nx : Nat → List Nat) (x : Nat) (m : Int) : Prop := ∃ z : Nat, m = (z : Int) ∧ Way nx x z ∧ Way nx z x ∧ ∀ y, Way nx x y → Way nx y x → z ≤ y
def updI (st : Nat → Int) (i : Nat) (v : Int) : Nat → Int := fun j => if j = i then v else st j

/-- how many were met. -/
def nz (wh : Nat → Nat) : Nat → Nat
  | 0 => 0
  | n + 1 => nz wh n + if wh n = 0 then 0 else 1
theorem nz_le (wh : Nat → Nat) : ∀ n, nz wh n ≤ n
  | 0 => Nat.le_refl _
  | n + 1 => by
    have := nz_le wh n
    unfold nz
    split <;> omega
theorem nz_congr {wh wh' : Nat → Nat} : ∀ {n : Nat}, (∀ j, j < n → (wh j = 0 ↔ wh' j = 0)) → nz wh n = nz wh' n
  | 0, _ => rfl
  | n + 1, h => by
    unfold nz
    rw [nz_congr (n := n) (fun j hj => h j (by omega))]
    have := h n (by omega)
    by_cases h2 : wh n = 0
    · rw [if_pos h2, if_pos (this.1 h2)]
    · rw [if_neg h2, if_neg (fun x => h2 (this.2 x))]
theorem nz_upd {wh : Nat → Nat} {z v : Nat} (hz : wh z = 0) (hv : v ≠ 0) : ∀ {n : Nat}, z < n → nz (upd wh z v) n = nz wh n + 1
  | 0, h => by omega
  | n + 1, h => by
    unfold nz
    by_cases hzn : z = n
    · subst hzn
      rw [upd_same, if_neg hv, if_pos hz, nz_congr (wh := upd wh z v) (wh' := wh) (fun j hj => by rw [upd_other (by omega)])]
    · rw [nz_upd hz hv (n := n) (by omega), upd_other (show n ≠ z by omega)]
      omega
theorem nz_zero {wh : Nat → Nat} : ∀ {n : Nat}, (∀ j, wh j = 0) → nz wh n = 0
  | 0, _ => rfl
  | n + 1, h => by unfold nz; rw [nz_zero (n := n) h, if_pos (h n)]
theorem nz_full {wh : Nat → Nat} : ∀ {n : Nat}, (∀ j, j < n → wh j ≠ 0) → nz wh n = n
  | 0, _ => rfl
  | n + 1, h => by unfold nz; rw [nz_full (n := n) (fun j hj => h j (by omega)), if_neg (h n (by omega))]
theorem nz_lt {wh : Nat → Nat} {z : Nat} (hz : wh z = 0) {n : Nat} (h : z < n) : nz wh n < n := by
  have h1 := nz_upd hz (show (1 : Nat) ≠ 0 by decide) h
  have h2 := nz_le (upd wh z 1) n
  omega
/-- THE WALK, UNDER WAY. -/
structure Tj (n : Nat) (nx : Nat → List Nat) (F : Frames) (wh lo go : Nat → Nat) (pt : Nat → Int) (met : Nat) : Prop where
  lt : ∀ x ∈ opens F, x < n
  sorted : (opens F).Pairwise (fun a b => wh a < wh b)
  pos : ∀ x ∈ opens F, 1 ≤ wh x ∧ wh x ≤ met
  new : ∀ x, x < n → wh x = 0 → ¬ x ∈ opens F ∧ pt x = -1 ∧ go x = 0
  old : ∀ x, x < n → wh x ≠ 0 → x ∈ opens F ∨ pt x ≠ -1
  opn : ∀ x ∈ opens F, pt x = -1
  told : ∀ x, x < n → pt x ≠ -1 → PartIs nx x (pt x) ∧ ∀ y ∈ nx x, pt y ≠ -1
  chain : ChainF nx F
  low : ∀ x ∈ opens F, 1 ≤ lo x ∧ lo x ≤ wh x ∧ ∃ y ∈ opens F, wh y = lo x ∧ Way nx x y
  frame : ∀ f ∈ F, ∀ x ∈ f.2, lo f.1 ≤ lo x ∧ lo x < wh x ∧ Way nx f.1 x ∧ go x = (nx x).length
  gone : ∀ x ∈ opens F, ∀ j, j < go x → pt ((nx x).getD j 0) ≠ -1 ∨ ((nx x).getD j 0 ∈ opens F ∧ lo x ≤ wh ((nx x).getD j 0)) ∨ AboveF F x ((nx x).getD j 0)
  gole : ∀ x, x < n → go x ≤ (nx x).length
  few : met = nz wh n

theorem opens_head {d : Nat} {r : List Nat} {F : Frames} : d ∈ opens ((d, r) :: F) := by simp [opens]
theorem opens_rest {d x : Nat} {r : List Nat} {F : Frames} (h : x ∈ r) : x ∈ opens ((d, r) :: F) := by simp [opens, h]
theorem opens_low {f : Nat × List Nat} {x : Nat} {F : Frames} (h : x ∈ opens F) : x ∈ opens (f :: F) := by
  obtain ⟨d, r⟩ := f
  simp [opens, h]
theorem opens_frame {F : Frames} {f : Nat × List Nat} (hf : f ∈ F) : f.1 ∈ opens F ∧ ∀ x ∈ f.2, x ∈ opens F := by
  induction F with
  | nil => simp at hf
  | cons g F ih =>
    obtain ⟨d, r⟩ := g
    rcases List.mem_cons.1 hf with rfl | hf
    · exact ⟨opens_head, fun x hx => opens_rest hx⟩
    · exact ⟨opens_low (ih hf).1, fun x hx => opens_low ((ih hf).2 x hx)⟩
theorem AboveF.mem {F : Frames} {x y : Nat} (h : AboveF F x y) : x ∈ opens F ∧ y ∈ opens F := by
  induction F with
  | nil => exact h.elim
  | cons f F ih =>
    obtain ⟨d, r⟩ := f
    cases F with
    | nil => exact h.elim
    | cons g F =>
      obtain ⟨d', r'⟩ := g
      rcases h with ⟨rfl, rfl⟩ | h
      · exact ⟨opens_low opens_head, opens_head⟩
      · exact ⟨opens_low (ih h).1, opens_low (ih h).2⟩
theorem Tj.nodup {n : Nat} {nx : Nat → List Nat} {F : Frames} {wh lo go : Nat → Nat} {pt : Nat → Int} {met : Nat} (h : Tj n nx F wh lo go pt met) : (opens F).Nodup := by
  refine h.sorted.imp fun {a b} hab e => ?_
  subst e
  omega
/-- below the last frame all were met ahead of it. -/
theorem Tj.before {n : Nat} {nx : Nat → List Nat} {d : Nat} {r : List Nat} {F : Frames} {wh lo go : Nat → Nat} {pt : Nat → Int} {met : Nat} (h : Tj n nx ((d, r) :: F) wh lo go pt met) : (∀ x ∈ opens F, ∀ y ∈ d :: r, wh x < wh y) ∧ ∀ x ∈ r, wh d < wh x := by
  have h1 := h.sorted
  unfold opens at h1
  rw [List.pairwise_append] at h1
  refine ⟨fun x hx y hy => h1.2.2 x hx y hy, fun x hx => ?_⟩
  have := h1.2.1
  rw [List.pairwise_cons] at this
  exact this.1 x hx
theorem Tj.head_ne {n : Nat} {nx : Nat → List Nat} {d : Nat} {r : List Nat} {F : Frames} {wh lo go : Nat → Nat} {pt : Nat → Int} {met : Nat} (h : Tj n nx ((d, r) :: F) wh lo go pt met) : ∀ f ∈ ((d, r) :: F), ∀ x ∈ f.2, x ≠ d := by
  obtain ⟨h1, h2⟩ := h.before
  intro f hf x hx e
  subst e
  rcases List.mem_cons.1 hf with rfl | hf
  · have := h2 x hx; omega
  · have := h1 x ((opens_frame hf).2 x hx) x (by simp); omega
theorem Tj.head_ne' {n : Nat} {nx : Nat → List Nat} {d : Nat} {r : List Nat} {F : Frames} {wh lo go : Nat → Nat} {pt : Nat → Int} {met : Nat} (h : Tj n nx ((d, r) :: F) wh lo go pt met) : ∀ f ∈ F, f.1 ≠ d := by
  obtain ⟨h1, h2⟩ := h.before
  intro f hf e
  have := h1 f.1 (opens_frame hf).1 d (by simp)
  rw [e] at this; omega
/-- nothing is met yet. -/
theorem Tj.start (n : Nat) (nx : Nat → List Nat) : Tj n nx [] (fun _ => 0) (fun _ => 0) (fun _ => 0) (fun _ => -1) 0 :=
  ⟨by simp [opens], by simp [opens], by simp [opens], fun x _ _ => ⟨by simp [opens], rfl, rfl⟩, fun x _ h => absurd rfl h, by simp [opens], fun x _ h => absurd rfl h, trivial, by simp [opens], by simp, by simp [opens], fun x _ => Nat.zero_le _, (nz_zero (fun _ => rfl)).symm⟩

section
variable {n : Nat} {nx : Nat → List Nat} {wh lo go : Nat → Nat} {pt : Nat → Int} {met : Nat}
/-- a walk begins. -/
theorem Tj.begin {z : Nat} (h : Tj n nx [] wh lo go pt met) (hz : z < n) (hw : wh z = 0) : Tj n nx [(z, [])] (upd wh z (met + 1)) (upd lo z (met + 1)) go pt (met + 1) := by
  obtain ⟨_, hp, hg⟩ := h.new z hz hw
  have hm : ∀ x, x ∈ opens [(z, [])] → x = z := fun x hx => by simpa [opens] using hx
  refine ⟨fun x hx => ?_, by simp [opens], fun x hx => ?_, fun x hx hx0 => ?_, fun x hx hx0 => ?_, fun x hx => ?_, h.told, trivial, fun x hx => ?_, fun f hf x hx => ?_, fun x hx j hj => ?_, h.gole, ?_⟩
  · rw [hm x hx]; exact hz
  · rw [hm x hx, upd_same]; omega
  · by_cases e : x = z
    · subst e; rw [upd_same] at hx0; omega
    · rw [upd_other e] at hx0
      obtain ⟨_, h2, h3⟩ := h.new x hx hx0
      exact ⟨fun hh => e (hm x hh), h2, h3⟩
  · by_cases e : x = z
    · subst e; exact .inl opens_head
    · rw [upd_other e] at hx0
      rcases h.old x hx hx0 with h1 | h1
      · simp [opens] at h1
      · exact .inr h1
  · rw [hm x hx]; exact hp
  · rw [hm x hx]
    exact ⟨by rw [upd_same]; omega, by rw [upd_same, upd_same]; exact Nat.le_refl _, z, opens_head, by rw [upd_same, upd_same], .stay⟩
  · simp at hf; subst hf; simp at hx
  · rw [hm x hx, hg] at hj; omega
  · rw [nz_upd hw (by omega) hz, ← h.few]
/-- one goes down. -/
theorem Tj.descend {p z : Nat} {r : List Nat} {F : Frames} (h : Tj n nx ((p, r) :: F) wh lo go pt met) (hj : go p < (nx p).length) (hzz : (nx p).getD (go p) 0 = z) (hz : z < n) (hw : wh z = 0) :
    Tj n nx ((z, []) :: (p, r) :: F) (upd wh z (met + 1)) (upd lo z (met + 1)) (upd go p (go p + 1)) pt (met + 1) := by
  obtain ⟨hno, hp, hg⟩ := h.new z hz hw
  have hop : ∀ x, x ∈ opens ((z, []) :: (p, r) :: F) → x = z ∨ x ∈ opens ((p, r) :: F) := fun x hx => by
    have : x ∈ opens ((p, r) :: F) ++ [z] := hx
    rcases List.mem_append.1 this with h1 | h1
    · exact .inr h1
    · exact .inl (List.mem_singleton.1 h1)
  have hne : ∀ x, x ∈ opens ((p, r) :: F) → x ≠ z := fun x hx e => hno (e ▸ hx)
  have hpz : p ≠ z := hne p opens_head
  have hmem : z ∈ nx p := by
    rw [← hzz, List.getD_eq_getElem?_getD, List.getElem?_eq_getElem hj]; exact List.getElem_mem _
  have hpl := h.lt p opens_head
  refine ⟨fun x hx => ?_, ?_, fun x hx => ?_, fun x hx hx0 => ?_, fun x hx hx0 => ?_, fun x hx => ?_, h.told, ⟨hmem, h.chain⟩, fun x hx => ?_, fun f hf x hx => ?_, fun x hx j hj2 => ?_, fun x hx => ?_, ?_⟩
  · rcases hop x hx with rfl | h1
    · exact hz
    · exact h.lt x h1
  · show (opens ((p, r) :: F) ++ [z]).Pairwise _
    rw [List.pairwise_append]
    refine ⟨h.sorted.imp_of_mem fun {a b} ha hb hab => ?_, by simp, fun a ha b hb => ?_⟩
    · rw [upd_other (hne a ha), upd_other (hne b hb)]; exact hab
    · rw [List.mem_singleton] at hb; subst hb
      rw [upd_other (hne a ha), upd_same]
      have := h.pos a ha; omega
  · rcases hop x hx with rfl | h1
    · rw [upd_same]; omega
    · rw [upd_other (hne x h1)]; have := h.pos x h1; omega
  · by_cases e : x = z
    · subst e; rw [upd_same] at hx0; omega
    · rw [upd_other e] at hx0
      obtain ⟨h1, h2, h3⟩ := h.new x hx hx0
      have hxp : x ≠ p := fun e => h1 (e ▸ opens_head)
      refine ⟨fun hh => ?_, h2, by rw [upd_other hxp]; exact h3⟩
      rcases hop x hh with h4 | h4
      · exact e h4
      · exact h1 h4
  · by_cases e : x = z
    · subst e; exact .inl opens_head
    · rw [upd_other e] at hx0
      rcases h.old x hx hx0 with h1 | h1
      · exact .inl (opens_low h1)
      · exact .inr h1
  · rcases hop x hx with rfl | h1
    · exact hp
    · exact h.opn x h1
  · rcases hop x hx with rfl | h1
    · exact ⟨by rw [upd_same]; omega, by rw [upd_same, upd_same]; exact Nat.le_refl _, x, opens_head, by rw [upd_same, upd_same], .stay⟩
    · obtain ⟨h2, h3, y, h4, h5, h6⟩ := h.low x h1
      refine ⟨by rw [upd_other (hne x h1)]; exact h2, by rw [upd_other (hne x h1), upd_other (hne x h1)]; exact h3, y, opens_low h4, by rw [upd_other (hne x h1), upd_other (hne y h4)]; exact h5, h6⟩
  · rcases List.mem_cons.1 hf with rfl | hf
    · simp at hx
    · have hx' := (opens_frame hf).2 x hx
      obtain ⟨h1, h2, h3, h4⟩ := h.frame f hf x hx
      rw [upd_other (hne _ (opens_frame hf).1), upd_other (hne x hx'), upd_other (hne x hx'), upd_other (h.head_ne f hf x hx)]
      exact ⟨h1, h2, h3, h4⟩
  · rcases hop x hx with rfl | h1
    · rw [upd_other (Ne.symm hpz), hg] at hj2; omega
    · have key : ∀ j, j < go x → pt ((nx x).getD j 0) ≠ -1 ∨ ((nx x).getD j 0 ∈ opens ((z, []) :: (p, r) :: F) ∧ upd lo z (met + 1) x ≤ upd wh z (met + 1) ((nx x).getD j 0)) ∨ AboveF ((z, []) :: (p, r) :: F) x ((nx x).getD j 0) := fun j hj3 => by
        rcases h.gone x h1 j hj3 with h2 | ⟨h2, h3⟩ | h2
        · exact .inl h2
        · exact .inr (.inl ⟨opens_low h2, by rw [upd_other (hne x h1), upd_other (hne _ h2)]; exact h3⟩)
        · exact .inr (.inr (.inr h2))
      by_cases e : x = p
      · subst e
        rw [upd_same] at hj2
        by_cases hjl : j < go x
        · exact key j hjl
        · obtain rfl : j = go x := by omega
          exact .inr (.inr (.inl ⟨rfl, hzz⟩))
      · rw [upd_other e] at hj2
        exact key j hj2
  · by_cases e : x = p
    · subst e; rw [upd_same]; omega
    · rw [upd_other e]; exact h.gole x hx
  · rw [nz_upd hw (by omega) hz, ← h.few]
/-- one more way is gone along, to what is open or told. -/
theorem Tj.along {p y v : Nat} {r : List Nat} {F : Frames} (h : Tj n nx ((p, r) :: F) wh lo go pt met) (hj : go p < (nx p).length) (hy : (nx p).getD (go p) 0 = y) (hv1 : v ≤ lo p) (hv2 : v = lo p ∨ (v = wh y ∧ y ∈ opens ((p, r) :: F))) (hv3 : pt y ≠ -1 ∨ (y ∈ opens ((p, r) :: F) ∧ v ≤ wh y)) :
    Tj n nx ((p, r) :: F) wh (upd lo p v) (upd go p (go p + 1)) pt met := by
  have hmem : y ∈ nx p := by
    rw [← hy, List.getD_eq_getElem?_getD, List.getElem?_eq_getElem hj]; exact List.getElem_mem _
  have hpo : p ∈ opens ((p, r) :: F) := opens_head
  have hpl := h.lt p hpo
  have hle : ∀ x, upd lo p v x ≤ lo x := fun x => by
    by_cases e : x = p
    · subst e; rw [upd_same]; exact hv1
    · rw [upd_other e]; exact Nat.le_refl _
  refine ⟨h.lt, h.sorted, h.pos, fun x hx hx0 => ?_, h.old, h.opn, h.told, h.chain, fun x hx => ?_, fun f hf x hx => ?_, fun x hx j hj2 => ?_, fun x hx => ?_, h.few⟩
  · obtain ⟨h1, h2, h3⟩ := h.new x hx hx0
    have hxp : x ≠ p := fun e => h1 (by rw [e]; exact hpo)
    exact ⟨h1, h2, by rw [upd_other hxp]; exact h3⟩
  · obtain ⟨h1, h2, z, h3, h4, h5⟩ := h.low x hx
    by_cases e : x = p
    · subst e
      rw [upd_same]
      rcases hv2 with rfl | ⟨rfl, hyo⟩
      · exact ⟨h1, h2, z, h3, h4, h5⟩
      · exact ⟨(h.pos y hyo).1, by omega, y, hyo, rfl, Way.one hmem⟩
    · rw [upd_other e]; exact ⟨h1, h2, z, h3, h4, h5⟩
  · obtain ⟨h1, h2, h3, h4⟩ := h.frame f hf x hx
    have hxp := h.head_ne f hf x hx
    rw [upd_other hxp, upd_other hxp]
    exact ⟨Nat.le_trans (hle _) h1, h2, h3, h4⟩
  · have key : ∀ j, j < go x → pt ((nx x).getD j 0) ≠ -1 ∨ ((nx x).getD j 0 ∈ opens ((p, r) :: F) ∧ upd lo p v x ≤ wh ((nx x).getD j 0)) ∨ AboveF ((p, r) :: F) x ((nx x).getD j 0) := fun j hj3 => by
      rcases h.gone x hx j hj3 with h2 | ⟨h2, h3⟩ | h2
      · exact .inl h2
      · exact .inr (.inl ⟨h2, Nat.le_trans (hle x) h3⟩)
      · exact .inr (.inr h2)
    by_cases e : x = p
    · subst e
      rw [upd_same] at hj2
      by_cases hjl : j < go x
      · exact key j hjl
      · obtain rfl : j = go x := by omega
        rw [hy]
        rcases hv3 with h2 | ⟨h2, h3⟩
        · exact .inl h2
        · exact .inr (.inl ⟨h2, by rw [upd_same]; exact h3⟩)
    · rw [upd_other e] at hj2
      exact key j hj2
  · by_cases e : x = p
    · subst e; rw [upd_same]; omega
    · rw [upd_other e]; exact h.gole x hx
/-- one leaves a place that reaches something earlier. -/
theorem Tj.leave {p q : Nat} {r s : List Nat} {F : Frames} (h : Tj n nx ((p, r) :: (q, s) :: F) wh lo go pt met) (hg : go p = (nx p).length) (hl : lo p ≠ wh p) :
    Tj n nx ((q, s ++ p :: r) :: F) wh (upd lo q (min (lo q) (lo p))) go pt met := by
  have ho : opens ((q, s ++ p :: r) :: F) = opens ((p, r) :: (q, s) :: F) := by simp [opens]
  have hpo : p ∈ opens ((p, r) :: (q, s) :: F) := opens_head
  have hqo : q ∈ opens ((p, r) :: (q, s) :: F) := opens_low opens_head
  have hch := h.chain
  have hqp : Way nx q p := Way.one hch.1
  have hlp := h.low p hpo
  have hle : ∀ x, upd lo q (min (lo q) (lo p)) x ≤ lo x := fun x => by
    by_cases e : x = q
    · subst e; rw [upd_same]; exact Nat.min_le_left _ _
    · rw [upd_other e]; exact Nat.le_refl _
  have hnq : ∀ x ∈ s ++ p :: r, x ≠ q := fun x hx => by
    have h1 := h.sorted
    have h2 : opens ((p, r) :: (q, s) :: F) = opens F ++ q :: (s ++ p :: r) := by simp [opens]
    rw [h2, List.pairwise_append, List.pairwise_cons] at h1
    intro e
    have := h1.2.1.1 x hx
    rw [e] at this; omega
  have hnq' : ∀ f ∈ F, f.1 ≠ q ∧ ∀ x ∈ f.2, x ≠ q := fun f hf => by
    have h1 := h.sorted
    have h2 : opens ((p, r) :: (q, s) :: F) = opens F ++ q :: (s ++ p :: r) := by simp [opens]
    rw [h2, List.pairwise_append] at h1
    refine ⟨fun e => ?_, fun x hx e => ?_⟩
    · have := h1.2.2 _ (opens_frame hf).1 q (by simp); rw [e] at this; omega
    · have := h1.2.2 _ ((opens_frame hf).2 x hx) q (by simp); rw [e] at this; omega
  refine ⟨by rw [ho]; exact h.lt, by rw [ho]; exact h.sorted, by rw [ho]; exact h.pos, by rw [ho]; exact h.new, by rw [ho]; exact h.old, by rw [ho]; exact h.opn, h.told, ?_, fun x hx => ?_, fun f hf x hx => ?_, fun x hx j hj => ?_, h.gole, h.few⟩
  · have := hch.2
    cases F with
    | nil => trivial
    | cons f F => exact this
  · rw [ho] at hx ⊢
    obtain ⟨h1, h2, z, h3, h4, h5⟩ := h.low x hx
    by_cases e : x = q
    · subst e
      rw [upd_same]
      obtain ⟨g1, g2, y, g3, g4, g5⟩ := hlp
      by_cases hm : lo x ≤ lo p
      · rw [Nat.min_eq_left hm]; exact ⟨h1, h2, z, h3, h4, h5⟩
      · rw [Nat.min_eq_right (by omega)]; exact ⟨g1, by omega, y, g3, g4, hqp.trans g5⟩
    · rw [upd_other e]; exact ⟨h1, h2, z, h3, h4, h5⟩
  · rcases List.mem_cons.1 hf with rfl | hf
    · rw [upd_other (hnq x hx)]
      show upd lo q (min (lo q) (lo p)) q ≤ lo x ∧ _
      rw [upd_same]
      rcases List.mem_append.1 hx with hx | hx
      · obtain ⟨h1, h2, h3, h4⟩ := h.frame (q, s) (by simp) x hx
        exact ⟨Nat.le_trans (Nat.min_le_left _ _) h1, h2, h3, h4⟩
      · rcases List.mem_cons.1 hx with rfl | hx
        · exact ⟨Nat.min_le_right _ _, by omega, hqp, hg⟩
        · obtain ⟨h1, h2, h3, h4⟩ := h.frame (p, r) (by simp) x hx
          exact ⟨Nat.le_trans (Nat.min_le_right _ _) h1, h2, hqp.trans h3, h4⟩
    · obtain ⟨h1, h2, h3, h4⟩ := h.frame f (by simp [hf]) x hx
      obtain ⟨h5, h6⟩ := hnq' f hf
      rw [upd_other h5, upd_other (h6 x hx)]
      exact ⟨h1, h2, h3, h4⟩
  · rw [ho] at hx
    rcases h.gone x hx j hj with h2 | ⟨h2, h3⟩ | h2
    · exact .inl h2
    · exact .inr (.inl ⟨by rw [ho]; exact h2, Nat.le_trans (hle x) h3⟩)
    · rcases h2 with ⟨rfl, h2⟩ | h2
      · refine .inr (.inl ⟨by rw [ho, h2]; exact hpo, ?_⟩)
        rw [upd_same, h2]
        exact Nat.le_trans (Nat.min_le_right _ _) hlp.2.1
      · refine .inr (.inr ?_)
        cases F with
        | nil => exact h2
        | cons f F => exact h2
/-- the first place of the way reaches nothing earlier. -/
theorem Tj.bottom {p : Nat} {r : List Nat} (h : Tj n nx [(p, r)] wh lo go pt met) : lo p = wh p := by
  obtain ⟨_, h2, y, h3, h4, _⟩ := h.low p opens_head
  have h5 : y ∈ p :: r := by simpa [opens] using h3
  rcases List.mem_cons.1 h5 with rfl | h5
  · omega
  · have := h.before.2 y h5; omega
/-- WHAT IS OPEN FROM A PLACE ON THAT REACHES NOTHING EARLIER IS A PART. -/
theorem Tj.part {p : Nat} {r : List Nat} {F : Frames} (h : Tj n nx ((p, r) :: F) wh lo go pt met) (hnx : ∀ i, i < n → ∀ k ∈ nx i, k < n) (hg : go p = (nx p).length) (hl : lo p = wh p) :
    (∀ x ∈ p :: r, ∀ y ∈ nx x, y ∈ p :: r ∨ pt y ≠ -1) ∧ (∀ x ∈ p :: r, Way nx p x ∧ Way nx x p) ∧ ∀ x ∈ p :: r, ∀ y, Way nx x y → Way nx y x → y ∈ p :: r := by
  obtain ⟨hb1, hb2⟩ := h.before
  have hlo : ∀ x ∈ p :: r, wh p ≤ lo x ∧ go x = (nx x).length ∧ Way nx p x := fun x hx => by
    rcases List.mem_cons.1 hx with rfl | hx
    · exact ⟨by omega, hg, .stay⟩
    · obtain ⟨h1, h2, h3, h4⟩ := h.frame (p, r) (by simp) x hx
      exact ⟨by have : lo p ≤ lo x := h1; omega, h4, h3⟩
  have hin : ∀ y ∈ opens ((p, r) :: F), wh p ≤ wh y → y ∈ p :: r := fun y hy hw => by
    have h1 : y ∈ opens F ++ (p :: r) := hy
    rcases List.mem_append.1 h1 with h1 | h1
    · have := hb1 y h1 p (by simp); omega
    · exact h1
  have hco : ∀ x ∈ p :: r, x ∈ opens ((p, r) :: F) := fun x hx => List.mem_append.2 (.inr hx)
  have hab : ∀ x ∈ p :: r, ∀ y, ¬ AboveF ((p, r) :: F) x y := fun x hx y hxy => by
    cases F with
    | nil => exact hxy
    | cons f F =>
      obtain ⟨q, s⟩ := f
      have : x ∈ opens ((q, s) :: F) := by
        rcases hxy with ⟨rfl, rfl⟩ | hxy
        · exact opens_head
        · exact hxy.mem.1
      have := hb1 x this x hx
      omega
  have hcl : ∀ x ∈ p :: r, ∀ y ∈ nx x, y ∈ p :: r ∨ pt y ≠ -1 := fun x hx y hy => by
    obtain ⟨h1, h2, h3⟩ := hlo x hx
    obtain ⟨j, hj, rfl⟩ := List.getElem_of_mem hy
    have := h.gone x (hco x hx) j (by omega)
    rw [List.getD_eq_getElem?_getD, List.getElem?_eq_getElem hj] at this
    rcases this with h4 | ⟨h4, h5⟩ | h4
    · exact .inr h4
    · exact .inl (hin _ h4 (by simp only [Option.getD_some] at h5; omega))
    · exact absurd h4 (hab x hx _)
  have hback : ∀ m, ∀ x ∈ p :: r, wh x ≤ m → Way nx x p := fun m => by
    induction m with
    | zero => intro x hx hm; have := h.pos x (hco x hx); omega
    | succ m ih =>
      intro x hx hm
      rcases List.mem_cons.1 hx with rfl | hx2
      · exact .stay
      · obtain ⟨h1, h2, h3, h4⟩ := h.frame (p, r) (by simp) x hx2
        obtain ⟨g1, g2, y, g3, g4, g5⟩ := h.low x (hco x hx)
        have hlx := (hlo x hx).1
        exact g5.trans (ih y (hin y g3 (by omega)) (by omega))
  refine ⟨hcl, fun x hx => ⟨(hlo x hx).2.2, hback _ x hx (Nat.le_refl _)⟩, fun x hx y hxy hyx => ?_⟩
  have hS : ∀ a, (a < n ∧ (a ∈ p :: r ∨ pt a ≠ -1)) → ∀ k ∈ nx a, (k < n ∧ (k ∈ p :: r ∨ pt k ≠ -1)) := fun a ⟨ha0, ha⟩ k hk => by
    refine ⟨hnx a ha0 k hk, ?_⟩
    rcases ha with ha | ha
    · exact hcl a ha k hk
    · exact .inr ((h.told a ha0 ha).2 k hk)
  have hy := Way.closed (S := fun a => a < n ∧ (a ∈ p :: r ∨ pt a ≠ -1)) hS ⟨h.lt x (hco x hx), .inl hx⟩ hxy
  rcases hy.2 with h1 | h1
  · exact h1
  · have hx2 := Way.closed (S := fun a => a < n ∧ pt a ≠ -1) (fun a ⟨ha0, ha⟩ k hk => ⟨hnx a ha0 k hk, (h.told a ha0 ha).2 k hk⟩) ⟨hy.1, h1⟩ hyx
    exact absurd (h.opn x (hco x hx)) hx2.2
/-- the least of some places. -/
def minL (p : Nat) (l : List Nat) : Nat := l.foldl min p
theorem minL_le : ∀ (l : List Nat) (p : Nat), minL p l ≤ p ∧ (∀ x ∈ l, minL p l ≤ x) ∧ (minL p l = p ∨ minL p l ∈ l)
  | [], p => ⟨Nat.le_refl _, by simp, .inl rfl⟩
  | a :: l, p => by
    obtain ⟨h1, h2, h3⟩ := minL_le l (min p a)
    have e : minL p (a :: l) = minL (min p a) l := rfl
    rw [e]
    refine ⟨Nat.le_trans h1 (Nat.min_le_left _ _), fun x hx => ?_, ?_⟩
    · rcases List.mem_cons.1 hx with rfl | hx
      · exact Nat.le_trans h1 (Nat.min_le_right _ _)
      · exact h2 x hx
    · rcases h3 with h3 | h3
      · by_cases hpa : p ≤ a
        · rw [h3, Nat.min_eq_left hpa]; exact .inl rfl
        · rw [h3, Nat.min_eq_right (by omega)]; exact .inr (by simp)
      · exact .inr (by simp [h3])
def tellPt (pt : Nat → Int) (l : List Nat) (m : Nat) : Nat → Int := fun x => if x ∈ l then (m : Int) else pt x
/-- A PART IS TOLD. -/
theorem Tj.tell {p : Nat} {r : List Nat} {F : Frames} (h : Tj n nx ((p, r) :: F) wh lo go pt met) (hnx : ∀ i, i < n → ∀ k ∈ nx i, k < n) (hg : go p = (nx p).length) (hl : lo p = wh p) :
    Tj n nx F wh lo go (tellPt pt (p :: r) (minL p (p :: r))) met := by
  obtain ⟨hcl, hway, honly⟩ := h.part hnx hg hl
  obtain ⟨hb1, hb2⟩ := h.before
  obtain ⟨m1, m2, m3⟩ := minL_le (p :: r) p
  have hmin : minL p (p :: r) ∈ p :: r := by
    rcases m3 with m3 | m3
    · rw [m3]; simp
    · exact m3
  generalize minL p (p :: r) = m at *
  have hno : ∀ x ∈ opens F, ¬ x ∈ p :: r := fun x hx hx2 => by have := hb1 x hx x hx2; omega
  have hpt : ∀ x, tellPt pt (p :: r) m x ≠ -1 ↔ x ∈ p :: r ∨ pt x ≠ -1 := fun x => by
    unfold tellPt
    by_cases hx : x ∈ p :: r
    · rw [if_pos hx]
      exact ⟨fun _ => .inl hx, fun _ => by omega⟩
    · rw [if_neg hx]
      exact ⟨.inr, fun hh => hh.resolve_left hx⟩
  have hptF : ∀ x, ¬ x ∈ p :: r → tellPt pt (p :: r) m x = pt x := fun x hx => if_neg hx
  refine ⟨fun x hx => h.lt x (opens_low hx), ?_, fun x hx => h.pos x (opens_low hx), fun x hx hx0 => ?_, fun x hx hx0 => ?_, fun x hx => ?_, fun x hx hx0 => ?_, ?_, fun x hx => ?_, fun f hf x hx => h.frame f (by simp [hf]) x hx, fun x hx j hj => ?_, h.gole, h.few⟩
  · have h1 := h.sorted
    unfold opens at h1
    rw [List.pairwise_append] at h1
    exact h1.1
  · obtain ⟨h1, h2, h3⟩ := h.new x hx hx0
    exact ⟨fun hh => h1 (opens_low hh), by rw [hptF x (fun hh => h1 (List.mem_append.2 (.inr hh)))]; exact h2, h3⟩
  · rcases h.old x hx hx0 with h1 | h1
    · have h2 : x ∈ opens F ++ (p :: r) := h1
      rcases List.mem_append.1 h2 with h2 | h2
      · exact .inl h2
      · exact .inr ((hpt x).2 (.inl h2))
    · exact .inr ((hpt x).2 (.inr h1))
  · rw [hptF x (hno x hx)]; exact h.opn x (opens_low hx)
  · by_cases hxp : x ∈ p :: r
    · refine ⟨⟨m, by unfold tellPt; rw [if_pos hxp], (hway x hxp).2.trans (hway m hmin).1, (hway m hmin).2.trans (hway x hxp).1, fun y h1 h2 => m2 y (honly x hxp y h1 h2)⟩, fun y hy => (hpt y).2 (hcl x hxp y hy)⟩
    · rw [hptF x hxp] at hx0 ⊢
      obtain ⟨h1, h2⟩ := h.told x hx hx0
      exact ⟨h1, fun y hy => (hpt y).2 (.inr (h2 y hy))⟩
  · have := h.chain
    cases F with
    | nil => trivial
    | cons f F => exact this.2
  · obtain ⟨h1, h2, y, h3, h4, h5⟩ := h.low x (opens_low hx)
    refine ⟨h1, h2, y, ?_, h4, h5⟩
    have h6 : y ∈ opens F ++ (p :: r) := h3
    rcases List.mem_append.1 h6 with h6 | h6
    · exact h6
    · have := hb1 x hx y h6; omega
  · rcases h.gone x (opens_low hx) j hj with h2 | ⟨h2, h3⟩ | h2
    · exact .inl ((hpt _).2 (.inr h2))
    · have h6 : (nx x).getD j 0 ∈ opens F ++ (p :: r) := h2
      rcases List.mem_append.1 h6 with h6 | h6
      · exact .inr (.inl ⟨h6, h3⟩)
      · exact .inl ((hpt _).2 (.inl h6))
    · cases F with
      | nil => exact h2.elim
      | cons f F =>
        obtain ⟨q, s⟩ := f
        rcases h2 with ⟨rfl, h2⟩ | h2
        · exact .inl ((hpt _).2 (.inl (by rw [h2]; simp)))
        · exact .inr (.inr h2)
/-- the parts are told. -/
theorem Tj.done (h : Tj n nx [] wh lo go pt met) (hw : ∀ x, x < n → wh x ≠ 0) : ∀ x, x < n → PartIs nx x (pt x) := fun x hx => by
  rcases h.old x hx (hw x hx) with h1 | h1
  · simp [opens] at h1
  · exact (h.told x hx h1).1
/-- how much is left to go. -/
def left (nx : Nat → List Nat) (go : Nat → Nat) : Nat → Nat
  | 0 => 0
  | n + 1 => left nx go n + ((nx n).length - go n)
theorem left_congr {go go' : Nat → Nat} : ∀ {n : Nat}, (∀ j, j < n → go j = go' j) → left nx go n = left nx go' n
  | 0, _ => rfl
  | n + 1, h => by unfold left; rw [left_congr (n := n) (fun j hj => h j (by omega)), h n (by omega)]
theorem left_upd {p : Nat} (hp : go p < (nx p).length) : ∀ {n : Nat}, p < n → left nx (upd go p (go p + 1)) n + 1 = left nx go n
  | 0, h => by omega
  | n + 1, h => by
    unfold left
    by_cases e : p = n
    · subst e
      rw [upd_same, left_congr (go := upd go p (go p + 1)) (go' := go) (fun j hj => upd_other (by omega))]
      omega
    · have := left_upd hp (n := n) (by omega)
      rw [upd_other (show n ≠ p by omega)]
      omega
end
end Go.Proofs.Ytknneajaklcjdaa
