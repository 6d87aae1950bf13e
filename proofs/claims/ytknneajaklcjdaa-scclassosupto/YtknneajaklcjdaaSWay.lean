/-
  The contract of scc.way.
-/
import Derived.Test.YtknneajaklcjdaaShelfRev
namespace Go.Proofs.Ytknneajaklcjdaa
open Go.ChangeShapes Go.WideShapes Go.ChangeAt Go.RowKit Go.Deep Go.Maps
open Terms

/-- each place leads to the next one. -/
def Trail (nx : Nat → List Nat) : List Nat → Prop
  | [] => True
  | [_] => True
  | a :: b :: l => b ∈ nx a ∧ Trail nx (b :: l)
/-- A WAY TO WHAT IS WANTED. -/
structure WayOk (n : Nat) (ins want : Nat → Bool) (nx : Nat → List Nat) (bs l : List Nat) : Prop where
  ne : l ≠ []
  head : l.getD 0 0 ∈ bs
  trail : Trail nx l
  last : want (l.getD (l.length - 1) 0) = true
  ins : ∀ x ∈ l, ins x = true ∧ x < n
  len : l.length ≤ n
/-- there is none. -/
def NoWay (ins want : Nat → Bool) (nx : Nat → List Nat) (bs : List Nat) : Prop := ∀ f ∈ bs, ins f = true → ∀ x, Way (fun i => (nx i).filter ins) f x → want x = false
def WayPost (n : Nat) (ins want : Nat → Bool) (nx : Nat → List Nat) (bs l : List Nat) : Prop := (l = [] ∧ NoWay ins want nx bs) ∨ WayOk n ins want nx bs l
theorem Through.noWay {n : Nat} {ins want : Nat → Bool} {nx : Nat → List Nat} {bs : List Nat} {L : Met} (h : Through ins want nx bs L L.length) (hl : LOk n ins nx bs L) : NoWay ins want nx bs := fun f hf hi x hx => by
  obtain ⟨h1, h2, h3⟩ := h.all hl
  refine h3 x (Way.closed (S := fun y => y ∈ keys L) (fun y hy k hk => ?_) (h1 f hf hi) hx)
  obtain ⟨h4, h5⟩ := List.mem_filter.1 hk
  exact h2 y hy k h4 h5
theorem fromOf_at {L : Met} (h : (keys L).Nodup) {i : Nat} (hi : i < L.length) : fromOf L (L.getD i (0, 0)).1 = (L.getD i (0, 0)).2 := by
  have hg : L.getD i (0, 0) = L[i] := by rw [List.getD_eq_getElem?_getD, List.getElem?_eq_getElem hi]; rfl
  rw [hg]
  unfold fromOf
  cases hf : L.find? (fun p => decide (p.1 = L[i].1)) with
  | none =>
    have := List.find?_eq_none.1 hf L[i] (List.getElem_mem hi)
    simp at this
  | some z =>
    have h1 := List.find?_some hf
    have h2 := List.mem_of_find?_eq_some hf
    obtain ⟨j, hj, rfl⟩ := List.getElem_of_mem h2
    simp only [decide_eq_true_eq] at h1
    have hij : j = i := by
      have e1 : (keys L)[j]'(by rw [keys_length]; exact hj) = (keys L)[i]'(by rw [keys_length]; exact hi) := by simp [keys]; exact h1
      have hp := List.pairwise_iff_getElem.1 h
      rcases Nat.lt_trichotomy j i with hlt | hlt | hlt
      · exact absurd e1 (hp j i _ _ hlt)
      · exact hlt
      · exact absurd e1.symm (hp i j _ _ hlt)
    subst hij
    rfl
/-- THE WAY BACK, UNDER WAY: the places so far (the last one found first), and where one comes next. -/
structure Bk (n : Nat) (ins want : Nat → Bool) (nx : Nat → List Nat) (bs : List Nat) (L : Met) (l : List Nat) (f : Int) (k : Nat) : Prop where
  trail : Trail nx l
  mem : ∀ x ∈ l, x ∈ keys L
  last : l ≠ [] → want (l.getD (l.length - 1) 0) = true
  next : (f = -1 ∧ k = 0 ∧ l ≠ [] ∧ l.getD 0 0 ∈ bs ∧ l.length ≤ L.length) ∨ ∃ i, k = i + 1 ∧ i < L.length ∧ f = ((L.getD i (0, 0)).1 : Int) ∧ l.length + i + 1 ≤ L.length ∧ (l = [] → want (L.getD i (0, 0)).1 = true) ∧ (l ≠ [] → l.getD 0 0 ∈ nx (L.getD i (0, 0)).1)
theorem Bk.step {n : Nat} {ins want : Nat → Bool} {nx : Nat → List Nat} {bs : List Nat} {L : Met} {l : List Nat} {i : Nat} (hL : LOk n ins nx bs L) (h : Bk n ins want nx bs L l ((L.getD i (0, 0)).1 : Int) (i + 1)) (hi : i < L.length) : ∃ k, k < i + 1 ∧ Bk n ins want nx bs L ((L.getD i (0, 0)).1 :: l) (fromOf L (L.getD i (0, 0)).1) k := by
  have hn : l.length + i + 1 ≤ L.length ∧ (l = [] → want (L.getD i (0, 0)).1 = true) ∧ (l ≠ [] → l.getD 0 0 ∈ nx (L.getD i (0, 0)).1) := by
    rcases h.next with ⟨h1, h2, _⟩ | ⟨j, h1, h2, h3, h4⟩
    · omega
    · have : j = i := by omega
      subst this
      exact h4
  obtain ⟨h1, h2, h3⟩ := hn
  rw [fromOf_at hL.nodup hi]
  have htr : Trail nx ((L.getD i (0, 0)).1 :: l) := by
    cases l with
    | nil => trivial
    | cons a l => exact ⟨h3 (by simp), h.trail⟩
  have hme : ∀ x ∈ (L.getD i (0, 0)).1 :: l, x ∈ keys L := fun x hx => by
    rcases List.mem_cons.1 hx with rfl | hx
    · exact key_at hi
    · exact h.mem x hx
  have hla : (L.getD i (0, 0)).1 :: l ≠ [] → want (((L.getD i (0, 0)).1 :: l).getD (((L.getD i (0, 0)).1 :: l).length - 1) 0) = true := fun _ => by
    cases l with
    | nil => exact h2 rfl
    | cons a l =>
      have := h.last (by simp)
      simpa using this
  rcases hL.src i hi with ⟨e1, e2⟩ | ⟨j, hj, e1, e2⟩
  · exact ⟨0, by omega, htr, hme, hla, .inl ⟨e1, rfl, by simp, e2, by simp; omega⟩⟩
  · exact ⟨j + 1, by omega, htr, hme, hla, .inr ⟨j, rfl, by omega, e1, by simp; omega, fun h => by simp at h, fun _ => e2⟩⟩
theorem Bk.done {n : Nat} {ins want : Nat → Bool} {nx : Nat → List Nat} {bs : List Nat} {L : Met} {l : List Nat} {k : Nat} (hL : LOk n ins nx bs L) (h : Bk n ins want nx bs L l (-1) k) : WayOk n ins want nx bs l := by
  rcases h.next with ⟨_, _, h1, h2, h3⟩ | ⟨i, _, _, h3, _⟩
  · exact ⟨h1, h2, h.trail, h.last h1, fun x hx => ⟨hL.ins x (h.mem x hx), hL.lt x (h.mem x hx)⟩, Nat.le_trans h3 hL.length⟩
  · omega

set_option maxHeartbeats 3200000 in
set_option maxRecDepth 20000 in
/-- THE CONTRACT OF way. -/
theorem way_any (so no bo po : Option Addr) (sc nc bc pc : Nat) (g : Gr) (bs : List Nat) (fi fw : FuncId) (ci cw : Array Value) (ins want : Nat → Bool) (w : World) (hg : GOk g) (hzn : ∀ i, i < g.spots.length → (g.next.getD i []).length ≤ 140737488355328)
    (hV : GraphV w (.slice so g.spots.length sc) (.slice no g.next.length nc) (.slice bo g.sets.length bc) g) (hP : NatsV w (.slice po bs.length pc) bs) (hbl : bs.length ≤ 140737488355328) (hbs : ∀ x ∈ bs, x < g.spots.length)
    (hI : FnB w w.heap.size g.spots.length (.func (.func fi) #[] ci) ins) (hW : FnB w w.heap.size g.spots.length (.func (.func fw) #[] cw) want) :
    Calls Try.prog 27 #[.agg #[.slice so g.spots.length sc, .int .i64 g.init, .slice no g.next.length nc, .slice bo g.sets.length bc, .int .i64 g.many], .slice po bs.length pc, .func (.func fi) #[] ci, .func (.func fw) #[] cw] w fun e w' => ∃ vo vc q, e = .returned (.slice vo q vc) ∧ Below w.heap.size w w' ∧ Hid (∃ l, l.length = q ∧ WayPost g.spots.length ins want (nxt g) bs l ∧ w'.ownsRow w.heap.size 3 1 (.slice vo q vc) q (nvals l)) := by
  obtain ⟨W0, hW0⟩ : ∃ W0, W0 = w.alloc (.cells #[.slice so g.spots.length sc, .int .i64 g.init, .slice no g.next.length nc, .slice bo g.sets.length bc, .int .i64 g.many] 26) := ⟨_, rfl⟩
  have hA : Below w.heap.size w W0 := by rw [hW0]; exact (Below.refl _ _).alloc (Nat.le_refl _) _
  have fnb : ∀ {F : Value} {p : Nat → Bool}, FnB w w.heap.size g.spots.length F p → FnB W0 W0.heap.size g.spots.length F p := fun {F p} h => by
    obtain ⟨fn, caps, h1, h2, h3⟩ := h
    exact ⟨fn, caps, h1, h2, fun w' hb q hq => h3 w' (hA.trans (hb.mono hA.size)) q hq⟩
  have hlo := look_any so no bo po sc nc bc pc g bs fi fw ci cw ins want W0 hg hzn (hV.below hA) (hP.below hA) hbl hbs (fnb hI) (fnb hW)
  have hn := hg.head.n
  obtain ⟨i0, hi0, hz0, hz1, hz2⟩ := info_parts infoInt
  clear hV hP hI hW fnb hzn
  unfold LookPost at hlo
  generalize nxt g = nx at *
  generalize g.next.length = nn at *
  generalize g.sets.length = bn at *
  generalize g.spots.length = n at *
  generalize g.init = gi at *
  generalize g.many = gm at *
  subst hW0
  go_enter Try.func27, Try.ntmps27
  go_wp2_with (go_at_call 37; refine hlo.mono ?_; rintro e w1 ⟨L, r, rfl, hb1, HC⟩)
  have hbw1 : Below w.heap.size w w1 := hA.trans (hb1.mono hA.size)
  obtain ⟨⟨D, hown, hcd⟩, hLok, hpost⟩ := HC.out
  have hLn := hLok.length
  have HL : Hid (LOk n ins nx bs L) := hLok
  have HCd : Hid (CameD D L) := hcd
  have hwl : w.heap.size < w1.heap.size := by have := hb1.size; simp at this; omega
  have HOw : Hid (w1.ownsMap Try.prog 3 (plainElem Try.prog 3) (w.heap.size + 1 + 2) L.length D) := by
    have := hown
    rw [World.size_alloc] at this
    exact this
  clear hown hcd hlo hb1 hA HC
  rcases hpost with ⟨rfl, hth⟩ | ⟨i, hi, rfl, hwi⟩
  · have HN : Hid (NoWay ins want nx bs) := hth.noWay hLok
    clear hth hLok HL HCd HOw
    go_loopg [9, 11] 0 (fun _ f v wr => f = .int .i64 (-1) ∧ v = .slice none 0 0 ∧ wr = w1)
    case atStart => exact ⟨rfl, rfl, rfl⟩
    case round =>
      obtain ⟨rfl, rfl, rfl⟩ := hrel
      have hrv := reverse_none none 0 wr
      go_wp2_with (go_at_call 39; refine hrv.mono ?_; rintro e w2 ⟨rfl, rfl⟩)
      go_ret
      exact ⟨_, _, _, rfl, hbw1, [], rfl, .inl ⟨rfl, HN.out⟩, World.ownsRow_nil _ _ _ _⟩
  · have HB0 : Hid (Bk n ins want nx bs L [] ((L.getD i (0, 0)).1 : Int) (i + 1)) := ⟨trivial, fun x hx => by simp at hx, fun h => absurd rfl h, .inr ⟨i, rfl, hi, rfl, by simp; omega, fun _ => hwi, fun h => absurd rfl h⟩⟩
    clear hLok hwi
    generalize ((L.getD i (0, 0)).1 : Int) = f0 at *
    go_loopg [9, 11] (i + 1) (fun k f v wr => ∃ (fI : Int) (ll : Nat), f = .int .i64 fI ∧ Hid (∃ l : List Nat, l.length = ll ∧ Bk n ins want nx bs L l fI k ∧ wr.ownsRow w1.heap.size 3 1 v ll (nvals l.reverse)) ∧ Hid (Below w1.heap.size w1 wr))
    case atStart => exact ⟨f0, 0, rfl, ⟨[], rfl, HB0.out, World.ownsRow_nil _ _ _ _⟩, Below.refl _ _⟩
    case round =>
      obtain ⟨fI, ll, rfl, HBk, HBr⟩ := hrel
      obtain ⟨l, hll, hbk, hro⟩ := HBk.out
      obtain ⟨vo, vc, rfl⟩ := owns_slice hro
      have hbwr : Below w.heap.size w wr := hbw1.trans (HBr.out.mono hbw1.size)
      rcases hbk.next with ⟨rfl, rfl, hne, _, hlen⟩ | ⟨j, rfl, hj, rfl, hlen, _, _⟩
      · have HWk : Hid (WayOk n ins want nx bs l) := hbk.done HL.out
        obtain ⟨g9, c9, hvv, hg1, hg2⟩ := hro.form (by cases l with | nil => exact absurd rfl hne | cons a l => simp at hll; omega)
        injection hvv with e1 e2 e3
        subst e1 e3
        have hrv := reverse_own g9 vc w1.heap.size l.reverse wr (by simp; omega) (by rw [List.length_reverse, hll]; exact hro)
        rw [List.length_reverse, hll, List.reverse_reverse] at hrv
        clear hbk hro HBk hne
        go_wp2_with (go_at_call 39; refine hrv.mono ?_; rintro e w2 ⟨rfl, hg3, ho3⟩)
        go_ret
        exact ⟨_, _, _, rfl, hbwr.grown hg3 hbwr.size (fun k hk => by cases hk; omega), l, hll, .inr HWk.out, owns_mono ho3 (by omega)⟩
      · obtain ⟨k', hk', hbk'⟩ := hbk.step HL.out hj
        have hpn : (L.getD j (0, 0)).1 < n := HL.out.lt _ (key_at hj)
        have hmem := key_at hj
        have hat0 := (HCd.out (L.getD j (0, 0)).1).2 hmem
        have hk1 := keyG (L.getD j (0, 0)).1 (by omega)
        have HB' : Hid (Bk n ins want nx bs L ((L.getD j (0, 0)).1 :: l) (fromOf L (L.getD j (0, 0)).1) k') := hbk'
        have HK' : Hid (k' < j + 1) := hk'
        have HLL : Hid (l.length = ll) := hll
        generalize fromOf L (L.getD j (0, 0)).1 = f2 at *
        generalize (L.getD j (0, 0)).1 = p at *
        have h63 : ll + 1 ≤ maxLen := by unfold maxLen; omega
        have hkb : (ll + 1) * 8 ≤ 140737488355328 := by omega
        have hown4 := fun o => hro.alloc o
        have hnb2 := hro.lt
        have hbase : ∀ o, w1.heap.size ≤ (wr.alloc o).heap.size := fun o => by have := HBr.out.size; simp; omega
        have hpm1 : ¬ (p : Int) = -1 := by omega
        clear hbk hro HBk hbk' hk' hll
        go_wp2_with (first | (at_builtin; refine wpList_append_own _ rfl (.tmp 22) (.tmp 24) 24 rfl w1.heap.size 3 i0 (.int .i64 0) 1 8 Try.underlying24 hi0 hz0 hz1 hz2 rfl (by decide) (.slice vo ll vc) ll _ rfl (hown4 _) ⟨wr.heap.size, 0, none⟩ 1 1 [.int .i64 (p : Int)] rfl rfl (cell_one_new _ _ _) (by intro u hu; simp at hu; subst hu; rfl) h63 hkb (hbase _) ?_; intro v' w5 hown' hgrow _; have hb5 : Below w1.heap.size w1 w5 := (HBr.out.alloc HBr.out.size _).grown hgrow (hbase _) (fun z hz => (hnb2 z hz).1); have hmo := HOw.out.kept (grown_below hb5) (by simp)) | (at_lookup; refine wpList_lookup_own_int _ rfl _ _ 61 rfl 3 3 .i64 keyInt Try.underlying61 Try.underlying3 (zeroInt _) (w.heap.size + 1 + 2) _ D rfl hmo _ _ rfl hk1 ?_; intro c hat hwc))
        have hc2 : c = f2 := by rw [hat0] at hat; injection hat with hat; injection hat with _ hat; exact hat.symm
        subst hc2
        go_roundg k'
        case measure => exact HK'.out
        case rel => exact ⟨c, ll + 1, rfl, ⟨p :: l, by simp [HLL.out], HB'.out, by rw [List.reverse_cons, nvals, List.map_append]; exact hown'⟩, hb5⟩
end Go.Proofs.Ytknneajaklcjdaa
