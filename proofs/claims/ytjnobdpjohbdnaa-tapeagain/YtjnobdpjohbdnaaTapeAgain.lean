/-
  Proved: foretellkeep.TapeAgain answers true at every list of lists of numbers, every list of bytes and every number (a tape that was repaired needs no repair, and a crash takes nothing that was synced). No condition.
-/
import Derived.Test.YtjnobdpjohbdnaaTMem
import Derived.Test.YtjnobdpjohbdnaaTAgain0
import Derived.Test.YtjnobdpjohbdnaaTRunS
namespace Go.Proofs.Ytjnobdpjohbdnaa
open Go.ChangeShapes Go.WideShapes Go.ChangeAt Go.RowKit Go.Deep

theorem owns_setTy {w : World} {base : Nat} {e t : TypeId} {s n : Nat} {v : Value} {xs : List Value} {p : Addr} {cs : Array Value} {fr : Nat × Nat} (h : w.ownsRow base e s v n xs) (hT : w.heap[p.block]? = some (.cells cs t fr)) (hne : t ≠ e) (u : Value) : (w.setCell p u).ownsRow base e s v n xs := by
  obtain ⟨h1, h2⟩ := h
  refine ⟨h1, ?_⟩
  rcases h2 with h2 | ⟨g, cap, cur, hv, hg, hh, r⟩
  · exact .inl h2
  · refine .inr ⟨g, cap, cur, hv, hg, ?_, r⟩
    have hgp : g ≠ p.block := fun e2 => by
      rw [e2, hT] at hh
      injection hh with hh
      injection hh with _ h3 _
      exact hne h3
    exact (blk_setCell_other w p u g hgp).trans hh
theorem LisO.setTy {w : World} {base : Nat} {v : Value} {rs : List (List Int)} {p : Addr} {cs : Array Value} {fr : Nat × Nat} (h : LisO w base v rs) (hT : w.heap[p.block]? = some (.cells cs 29 fr)) (u : Value) : LisO (w.setCell p u) base v rs := by
  obtain ⟨us, h1, h2, h3⟩ := h
  exact ⟨us, owns_setTy h1 hT (by decide) u, h2, fun i hi => owns_setTy (h3 i hi) hT (by decide) u⟩
theorem LisO.kept {w w' : World} {base base' n : Nat} {v tv : Value} {xs : List Value} {rs : List (List Int)} (h : LisO w base v rs) (ht : w.ownsRow base' 5 1 tv n xs) (hg : w.grownBy w' tv.ownBlock) : LisO w' base v rs := by
  obtain ⟨us, h1, h2, h3⟩ := h
  exact ⟨us, h1.kept hg (owns_apart (by decide) h1 ht), h2, fun i hi => (h3 i hi).kept hg (owns_apart (by decide) (h3 i hi) ht)⟩
/-- the tape's box, by its type too. -/
def TY (w : World) (T : Nat) (v0 v1 : Value) : Prop := TB w T v0 v1 ∧ ∃ cs fr, w.heap[T]? = some (.cells cs 29 fr)
theorem TY.later {w w' : World} {T B : Nat} {v0 v1 : Value} (h : TY w T v0 v1) (hb : Below B w w') (hB : T < B) : TY w' T v0 v1 := by
  obtain ⟨h1, cs, fr, h2⟩ := h
  exact ⟨h1.later hb hB, cs, fr, (hb.block T hB).trans h2⟩
theorem TY.new (w : World) (v0 v1 : Value) : TY (w.alloc (.cells #[v0, v1] 29)) w.heap.size v0 v1 := by
  refine ⟨⟨by simp, ?_, ?_, ?_, ?_⟩, _, _, heap_alloc_new w _⟩ <;> simp [go_sem]
theorem TY.grown {w w' : World} {T base n : Nat} {v0 v1 tv : Value} {xs : List Value} (h : TY w T v0 v1) (ht : w.ownsRow base 5 1 tv n xs) (hg : w.grownBy w' tv.ownBlock) : TY w' T v0 v1 := by
  obtain ⟨⟨h0, h1, h2, h3, h4⟩, cs, fr, h5⟩ := h
  have hne : some T ≠ tv.ownBlock := fun e => by
    rcases ht.2 with ⟨rfl, _⟩ | ⟨g, cap, cur, rfl, _, hg, _⟩
    · cases e
    · simp [Value.ownBlock] at e
      subst e
      rw [h5] at hg
      injection hg with hg
      injection hg with _ h3 _
      exact absurd h3 (by decide)
  have hb := hg.block T h0 hne
  exact ⟨⟨Nat.lt_of_lt_of_le h0 hg.size, hg.cell h1 hne, hg.cell h2 hne, (World.frozen?_of_block (a := ⟨T, 0, none⟩) hb).trans h3, (World.frozen?_of_block (a := ⟨T, 1, none⟩) hb).trans h4⟩, cs, fr, hb.trans h5⟩
theorem TB.set0 {w : World} {T : Nat} {v0 v1 : Value} (h : TB w T v0 v1) (x0 : Value) : TB (w.setCell ⟨T, 0, none⟩ x0) T x0 v1 := by
  obtain ⟨h0, h1, h2, h3, h4⟩ := h
  exact ⟨by simpa using h0, by simp [go_sem, h1], by simp [go_sem, h2], by simp [go_sem, h3], by simp [go_sem, h4]⟩

set_option maxHeartbeats 3200000 in
set_option maxRecDepth 20000 in
theorem tapeAgain_walk (v : Value) (ls : List (List Int)) (jv : Value) (jl : List UInt8) (x : Int) (w : World) (hx : I64 x) (hz : ls.length * 24 ≤ 140737488355328) (hjl : jl.length ≤ 140737488355328) (hV : ListsR w v ls) (hJ : BytesV w jv jl) :
    Calls Try.prog 7 #[v, jv, .int .i64 x] w fun e w' => e = .returned (.bool true) ∧ Below w.heap.size w w' := by
  obtain ⟨ao, cap, rfl⟩ : ∃ ao cap, v = .slice ao ls.length cap := by obtain ⟨_, a, c, h, _⟩ := id hV; exact ⟨a, c, h⟩
  obtain ⟨jo, jcap, rfl⟩ := hJ.shape
  have htp := taped_any _ ls w hz hV
  have hok : ∀ l ∈ rsN ls, wrC l = 0 := fun l hl => (rsN_small ls l hl).2
  have hle := bysN_le (rsN ls) (fun l hl => (rsN_small ls l hl).1)
  have hge := bysN_ge (rsN ls)
  have hrl := rsN_length ls
  have hbig : (bysN (rsN ls)).length ≤ 560 := by omega
  obtain ⟨jn, hjn⟩ : ∃ jn, min jl.length 40 = jn := ⟨_, rfl⟩
  have hjn4 : jn ≤ 40 := by omega
  have HSo : Hid (∀ w1, Below w.heap.size w w1 → Calls Try.prog 9 #[.slice jo jl.length jcap, .int .i64 40] w1 fun e w' => ∃ vo vc, e = .returned (.slice vo jn vc) ∧ Below w1.heap.size w1 w' ∧ Hid (BytesV w' (.slice vo jn vc) (jl.take jn))) := fun w1 hb => (some_any _ jl 40 w1 hjl (by decide) (hJ.below hb)).mono fun e w' ⟨v', h1, h2, h3⟩ => by
    rw [hjn] at h3
    obtain ⟨vo, vc, rfl⟩ := owns_slice h3
    exact ⟨vo, vc, h1, h2, bytesV_of_owns (l := jl.take jn) (by rw [List.length_take, Nat.min_eq_left (by omega)]; exact h3)⟩
  obtain ⟨J, hJd⟩ : ∃ J, jl.take jn = J := ⟨_, rfl⟩
  have hJl : J.length = jn := by rw [← hJd, List.length_take]; omega
  rw [hJd] at HSo
  obtain ⟨D, hD⟩ : ∃ D, bysN (rsN ls) ++ J = D := ⟨_, rfl⟩
  have hDl : D.length = (bysN (rsN ls)).length + jn := by rw [← hD, List.length_append, hJl]
  obtain ⟨more, hm1, hm2⟩ := read_first hok J
  rw [hD] at hm1 hm2
  obtain ⟨r, hr⟩ : ∃ r, (readL D).2 = r := ⟨_, rfl⟩
  obtain ⟨G, hG⟩ : ∃ G, (readL D).1 = G := ⟨_, rfl⟩
  have hrD : r ≤ D.length := by rw [← hr]; exact run_le D D.length
  obtain ⟨A, hA⟩ : ∃ A, D.take r = A := ⟨_, rfl⟩
  have hAl : A.length = r := by rw [← hA, List.length_take]; omega
  have hag : readL A = readL D := by rw [← hA, ← hr]; exact read_again D
  have hAt : A.take r = A := List.take_of_length_le (by omega)
  rw [hG] at hm1
  rw [hr] at hm2
  have hGs : ∀ i, i < G.length → (G.getD i []).length ≤ 140737488355328 := fun i hi => by
    have := run_small D D.length i (by show i < (readL D).1.length; rw [hG]; exact hi)
    have e : (run D.length D).1 = G := hG
    rw [e] at this
    omega
  have HR1 : Hid (∀ (ta : Option Addr) (tc : Nat) (w1 : World), BytesV w1 (.slice ta D.length tc) D → Calls Try.prog 19 #[.agg #[.slice ta D.length tc, .int .i64 0]] w1 fun e w' => ∃ xo xc, e = .returned (.tuple #[.agg #[.slice xo r xc, .int .i64 0], .int .i64 0]) ∧ Below w1.heap.size w1 w' ∧ Hid (BytesV w' (.slice xo r xc) A)) := fun ta tc w1 h => (repair_ok ta tc D 0 w1 (by simp [mayB]; omega) h).mono fun e w' ⟨xo, xc, h1, h2, h3⟩ => by
    rw [hr, hA] at h1 h3
    have e0 : min (0 : Int) (r : Int) = 0 := by omega
    rw [e0, hAl] at h1
    have h4 := bytesV_of_owns h3.out
    rw [hAl] at h4
    exact ⟨xo, xc, h1, h2, h4⟩
  have HR2 : Hid (∀ (ta : Option Addr) (tc : Nat) (w1 : World), BytesV w1 (.slice ta r tc) A → Calls Try.prog 19 #[.agg #[.slice ta r tc, .int .i64 0]] w1 fun e w' => ∃ xo xc, e = .returned (.tuple #[.agg #[.slice xo r xc, .int .i64 0], .int .i64 0]) ∧ Below w1.heap.size w1 w' ∧ Hid (BytesV w' (.slice xo r xc) A)) := fun ta tc w1 h => by
    have := repair_ok ta tc A 0 w1 (by simp [mayB]; omega) (by rw [hAl]; exact h)
    rw [hAl] at this
    refine this.mono fun e w' ⟨xo, xc, h1, h2, h3⟩ => ?_
    rw [hag, hr, hAt] at h1 h3
    have e0 : min (0 : Int) (r : Int) = 0 := by omega
    rw [e0, hAl] at h1
    have h4 := bytesV_of_owns h3.out
    rw [hAl] at h4
    exact ⟨xo, xc, h1, h2, h4⟩
  have HRd : Hid (∀ (ta : Option Addr) (tc : Nat) (w1 : World), BytesV w1 (.slice ta r tc) A → Calls Try.prog 13 #[.agg #[.slice ta r tc, .int .i64 0]] w1 fun e w' => ∃ xo xc, e = .returned (.tuple #[.slice xo G.length xc, .int .i64 r, .int .i64 0]) ∧ Below w1.heap.size w1 w' ∧ Hid (LisV w' (.slice xo (rsN ls).length xc) (rsN ls) ∧ ((rsN ls).length : Int) ≤ (xc : Int))) := fun ta tc w1 h => by
    have := read_ok ta tc A 0 w1 (by simp [mayB]; omega) (by rw [hAl]; exact h)
    rw [hAl] at this
    refine this.mono fun e w' ⟨xo, xc, h1, h2, h3⟩ => ?_
    rw [hag, hr, hG] at h1
    rw [hag, hG] at h3
    have hp := h3.out.v.pre (j := (rsN ls).length) (by rw [hm1, List.length_append]; omega)
    rw [hm1, List.take_left] at hp
    exact ⟨xo, xc, h1, h2, hp, by have := h3.out.room.1; rw [hm1, List.length_append] at this; omega⟩
  have HSy : Hid (∀ (ta : Option Addr) (tc : Nat) (w1 : World), BytesV w1 (.slice ta r tc) A → Calls Try.prog 15 #[.agg #[.slice ta r tc, .int .i64 0]] w1 fun e w' => ∃ xo xc, e = .returned (.tuple #[.agg #[.slice xo r xc, .int .i64 r], .int .i64 0]) ∧ Below w1.heap.size w1 w' ∧ Hid (BytesV w' (.slice xo r xc) A)) := fun ta tc w1 h => by
    have := sync_ok ta tc A 0 w1 (by simp [mayB]; omega) (by rw [hAl]; exact h)
    rw [hAl] at this
    refine this.mono fun e w' ⟨xo, xc, h1, h2, h3⟩ => ?_
    have h4 := bytesV_of_owns h3.out
    rw [hAl] at h1 h4
    exact ⟨xo, xc, h1, h2, h4⟩
  have hpr := pk_range (n := x) (m := 50) (by decide)
  have hpk := fun w1 => picked_is x 50 w1 hx (by decide) (by decide)
  generalize pk x 50 = kp at *
  have HCr : Hid (∀ (ta : Option Addr) (tc : Nat) (w1 : World), BytesV w1 (.slice ta r tc) A → Calls Try.prog 18 #[.agg #[.slice ta r tc, .int .i64 r], .int .i64 kp] w1 fun e w' => ∃ xo xc, e = .returned (.tuple #[.agg #[.slice xo r xc, .int .i64 r], .int .i64 0]) ∧ Below w1.heap.size w1 w' ∧ Hid (w'.ownsRow w1.heap.size 5 1 (.slice xo r xc) r (bvals A))) := fun ta tc w1 h => by
    have := crash_ok ta tc A r kp w1 (by simp [mayB]; omega) hpr.1 (by rw [hAl]; exact h)
    have e1 : leftN A.length r kp = r := by unfold leftN; omega
    rw [e1, hAl, hAt] at this
    refine this.mono fun e w' ⟨xo, xc, h1, h2, h3⟩ => ?_
    rw [hAl] at h1 h3
    exact ⟨xo, xc, h1, h2, h3⟩
  have HSm : Hid (∀ (ao bo : Option Addr) (ac bc : Nat) (w1 : World), LisV w1 (.slice ao (rsN ls).length ac) (rsN ls) → LisV w1 (.slice bo (rsN ls).length bc) (rsN ls) → Calls Try.prog 14 #[.slice ao (rsN ls).length ac, .slice bo (rsN ls).length bc] w1 fun e w' => e = .returned (.bool true) ∧ Below w1.heap.size w1 w') := fun ao bo ac bc w1 h1 h2 => sameListsK_true ao bo ac bc (rsN ls) w1 (by omega) small_of h1 h2
  have HTx : Hid (∀ (w1 : World) (xo : Option Addr) (xc : Nat), BytesV w1 (.slice xo r xc) A → (convert 22 9 (.slice xo r xc)).run Try.prog w1 = .ok (.string ⟨A.toArray⟩) w1) := fun w1 xo xc h => by
    have h2 : BytesV w1 (.slice xo A.length xc) A := by rw [hAl]; exact h
    have := h2.text
    rw [hAl] at this
    exact this
  have HDb : Hid (∀ (w1 : World) (b : Nat) (v : Value), w1.ownsRow b 5 1 v D.length (bvals (bysN (rsN ls)) ++ bvals J) → BytesV w1 v D) := fun w1 b v h => bytesV_of_owns (by rw [← bvals_append, hD] at h; exact h)
  have HAb : Hid (∀ (w1 : World) (b : Nat) (v : Value), w1.ownsRow b 5 1 v r (bvals A) → BytesV w1 v A) := fun w1 b v h => bytesV_of_owns (by rw [hAl]; exact h)
  have htp' : Calls Try.prog 12 #[.slice ao ls.length cap] w fun e w' => ∃ ta tc a c, e = .returned (.tuple #[.agg #[.slice ta (bysN (rsN ls)).length tc, .int .i64 0], .slice a (rsN ls).length c, .bool true]) ∧ Below w.heap.size w w' ∧ Hid (w'.ownsRow w.heap.size 5 1 (.slice ta (bysN (rsN ls)).length tc) (bysN (rsN ls)).length (bvals (bysN (rsN ls))) ∧ LisO w' w.heap.size (.slice a (rsN ls).length c) (rsN ls)) := htp
  have hgr : (rsN ls).length ≤ G.length := by rw [hm1, List.length_append]; omega
  have hr8 : (rsN ls).length = 0 ∨ 8 ≤ r := by omega
  rw [hDl] at HR1 HDb
  clear htp hok hle hge hrl hV hJ hm1 hm2 hG hr hA hAl hag hAt hGs hD hDl hJd hpr hrD hjn hJl
  generalize bvals (bysN (rsN ls)) = bv1 at *
  generalize hbl : (bysN (rsN ls)).length = bn at *
  clear hbl
  generalize hrn : (rsN ls).length = rn at *
  clear hrn
  generalize rsN ls = rs at *
  generalize G.length = gn at *
  generalize ls.length = n at *
  generalize jl.length = jll at *
  have hgr2 : (rn : Int) ≤ (gn : Int) := by omega
  have tk1 := True.intro
  have tk2 := True.intro
  go_enter Try.func7, Try.ntmps7
  go_wp2_with (first | (go_at_call 12; refine htp'.mono ?_; rintro e w1 ⟨ta, tc, a, c, rfl, hb1, HO1⟩))
  have hTY := TY.new w1 (.slice ta bn tc) (.int .i64 0)
  have hbn : Below w1.heap.size w1 (w1.alloc (.cells #[.slice ta bn tc, .int .i64 0] 29)) := (Below.refl _ _).alloc (Nat.le_refl _) _
  generalize w1.alloc (.cells #[.slice ta bn tc, .int .i64 0] 29) = wn at *
  have hb1n := hb1.trans (hbn.mono hb1.size)
  have hTl := hb1.size
  go_cut [] (fun w' => Hid (∃ da dc, TB w' w1.heap.size (.slice da (bn + jn) dc) (.int .i64 0) ∧ BytesV w' (.slice da (bn + jn) dc) D ∧ LisV w' (.slice a rn c) rs ∧ Below w.heap.size w w'))
  case first =>
    obtain ⟨⟨hlt0, p0, p1, f0, f1⟩, _⟩ := id hTY
    have hdr : Below wn.heap.size wn wn.drew := (Below.refl _ _).drew
    have hso := HSo.out wn.drew (hb1n.drew)
    go_region_law (first
      | (go_simp; go_at_call 9; refine hso.mono ?_; rintro e w2 ⟨vo, vc, rfl, hb2, HJ2⟩; have hbn2 := hdr.trans (hb2.mono hdr.size); have hT2 := hTY.later hbn2 hlt0; have hO2 := owns_later (owns_later HO1.out.1 hbn (Nat.le_refl _)) hbn2 (Nat.le_refl _); have hL2 := (HO1.out.2.later hbn (Nat.le_refl _)).later hbn2 (Nat.le_refl _); have hB2 := hb1n.trans (hbn2.mono hb1n.size); have hs2 := hB2.size; obtain ⟨⟨_, r0, r1, m0, m1⟩, _⟩ := id hT2)
      | (refine step_append_o (by rfl) (.tmp 28) (.tmp 30) (by rfl) w.heap.size bn tc ta bv1 (by rfl) hO2 vo jn vc J (by rfl) HJ2.out (by omega) hs2 ?_; intro vo' cap' w3 ho3 hg3; have hT3 := hT2.grown hO2 hg3; have hL3 := hL2.kept hO2 hg3; have hB3 := hB2.grown hg3 hs2 (fun q hq => (hO2.lt q hq).1); obtain ⟨⟨_, q0, q1, g0, g1⟩, cs3, fr3, ty3⟩ := id hT3))
    all_goals go_wp2_with fail
    all_goals go_meet
    all_goals exact ⟨vo', cap', hT3.1.set0 _, HDb.out _ _ _ (owns_setTy (p := ⟨w1.heap.size, 0, none⟩) ho3 ty3 (by decide) _), (hL3.setTy (p := ⟨w1.heap.size, 0, none⟩) ty3 _).v, hB3.setCell (p := ⟨w1.heap.size, 0, none⟩) hTl _⟩
  case rest =>
    obtain ⟨da, dc, hT4, hD4, hL4, hB4⟩ := hcut.out
    obtain ⟨_, t0, t1, _, _⟩ := id hT4
    have hr1 := HR1.out da dc _ hD4
    clear hcut HSo HDb HR1 htp' hTY hbn hb1n
    go_wp2_with (first
      | (clear tk1; go_at_call 19; refine hr1.mono ?_; rintro e w5 ⟨xo5, xc5, rfl, hb5, HA5⟩; obtain ⟨hbn5, hc5⟩ := Bc.arg w5 (.slice xo5 r xc5) (.int .i64 0) 29; have hB5 := hB4.trans (hb5.mono hB4.size); have hB5n := hB5.trans (hbn5.mono hB5.size); have hA5 := HA5.out.below hbn5; have hL5 := (hL4.below hb5).below hbn5; have hr2 := HR2.out xo5 xc5 _ hA5)
      | (clear tk2; go_at_call 19; refine hr2.mono ?_; rintro e w6 ⟨xo6, xc6, rfl, hb6, HA6⟩; obtain ⟨hbn6, hd6⟩ := Bc.arg w6 (.slice xo6 r xc6) (.int .i64 0) 29; have hB6 := hB5n.trans (hb6.mono hB5n.size); have hB6n := hB6.trans (hbn6.mono hB6.size); have hc6 := (hc5.later hb6).later hbn6; have hA6 := (hA5.below hb6).below hbn6; have hE6 := HA6.out.below hbn6; have hL6 := (hL5.below hb6).below hbn6; have hrd := HRd.out xo5 xc5 _ hA6; obtain ⟨_, a0, a1⟩ := id hc6)
      | (go_at_call 13; refine hrd.mono ?_; rintro e w7 ⟨xo7, xc7, rfl, hb7, HG7⟩; have hB7 := hB6n.trans (hb7.mono hB6n.size); have hc7 := hc6.later hb7; have hd7 := hd6.later hb7; have hA7 := hA6.below hb7; have hE7 := hE6.below hb7; have hL7 := hL6.below hb7; have hsy := HSy.out xo5 xc5 w7 hA7; obtain ⟨_, b0, b1⟩ := id hc7)
      | (go_at_call 15; refine hsy.mono ?_; rintro e w8 ⟨xo8, xc8, rfl, hb8, HA8⟩; obtain ⟨hbn8, hs8⟩ := Bc.arg w8 (.slice xo8 r xc8) (.int .i64 r) 29; have hB8 := hB7.trans (hb8.mono hB7.size); have hB8n := hB8.trans (hbn8.mono hB8.size); have hc8 := (hc7.later hb8).later hbn8; have hd8 := (hd7.later hb8).later hbn8; have hA8 := (hA7.below hb8).below hbn8; have hE8 := (hE7.below hb8).below hbn8; have hS8 := HA8.out.below hbn8; have hL8 := (hL7.below hb8).below hbn8; have hG8 := (HG7.out.1.below hb8).below hbn8))
    generalize w8.alloc (.cells #[.slice xo8 r xc8, .int .i64 r] 29) = wm at *
    go_cut [19, 20] (fun u19 u20 w' => ∃ B xo xc, u19 = .pointer (some ⟨B, 0, none⟩) ∧ u20 = .int .i64 0 ∧ Below wm.heap.size wm w' ∧ Bc w' B (.slice xo r xc) (.int .i64 r) ∧ Hid (BytesV w' (.slice xo r xc) A))
    case first =>
      have hdr : Below wm.heap.size wm wm.drew := (Below.refl _ _).drew
      have hal : Below wm.heap.size wm (wm.alloc (.cells #[.slice none 0 0, .int .i64 0] 29)).drew := ((Below.refl _ _).alloc (Nat.le_refl _) _).drew
      have hxA := HCr.out xo8 xc8 wm.drew (hS8.below hdr)
      have hxB := HCr.out xo8 xc8 (wm.alloc (.cells #[.slice none 0 0, .int .i64 0] 29)).drew (hS8.below hal)
      have hcB : NBox (wm.alloc (.cells #[.slice none 0 0, .int .i64 0] 29)).drew wm.heap.size := NBox.new wm
      have hlt3 := hcB.1
      obtain ⟨_, z0, z1⟩ := id hs8
      obtain ⟨_, zA0, zA1⟩ := hs8.later ((Below.refl _ _).alloc (Nat.le_refl _) (.cells #[.slice none 0 0, .int .i64 0] 29))
      go_region_law (first
        | (go_simp; go_at_call 11; refine (hpk _).mono ?_; rintro e wq ⟨rfl, HEq⟩; subst HEq)
        | (go_simp; go_at_call 18; refine hxA.mono ?_; rintro e w9 ⟨xo, xc, rfl, hb9, hv9⟩; have hs9 := hdr.trans (hb9.mono hdr.size))
        | (go_simp; go_at_call 18; refine hxB.mono ?_; rintro e w9 ⟨xo, xc, rfl, hb9, hv9⟩; have hs9 := hal.trans (hb9.mono hal.size); have kC := hcB.later hb9; obtain ⟨_, k0, k1, f0, f1⟩ := hcB.later hb9))
      all_goals go_wp2_with fail
      all_goals go_meet
      all_goals first
        | exact ⟨_, xo, xc, rfl, rfl, hs9.alloc hs9.size _, (Bc.arg w9 _ _ _).2, (HAb.out _ _ _ hv9.out).below (Bc.arg w9 _ _ _).1⟩
        | exact ⟨_, xo, xc, rfl, rfl, (hs9.setCell (p := ⟨wm.heap.size, 0, none⟩) (Nat.le_refl _) _).setCell (p := ⟨wm.heap.size, 1, none⟩) (Nat.le_refl _) _, kC.set _ _, HAb.out _ _ _ (owns_setCell (owns_setCell hv9.out (p := ⟨wm.heap.size, 0, none⟩) hlt3 _) (p := ⟨wm.heap.size, 1, none⟩) hlt3 _)⟩
    case rest =>
      obtain ⟨B, xo9, xc9, rfl, rfl, hb9, hc9, HA9⟩ := hcut
      have hca := hc8.later hb9
      have hda := hd8.later hb9
      have hAa := hA8.below hb9
      have hEa := hE8.below hb9
      have hLa := hL8.below hb9
      have hGa := hG8.below hb9
      have hBa := hB8n.trans (hb9.mono hB8n.size)
      have hxc7 := HG7.out.2
      have hsm := HSm.out xo7 a xc7 c _ hGa hLa
      obtain ⟨_, ca0, ca1⟩ := id hca
      have hr0 : (rn : Int) = 0 ∨ (8 : Int) ≤ (r : Int) := by omega
      clear HSm HR2 HRd HSy HCr HAb hr1 hpk HG7 HA5 HA6 HA8 hc5 hc6 hc7 hc8 hd6 hd7 hd8 hs8
      have rn0 : (0 : Int) ≤ (rn : Int) := by omega
      rcases hr0 with h0 | h8
      · obtain rfl : rn = 0 := by omega
        go_wp2_with (first | (go_at_call 14; refine hsm.mono ?_; rintro e w10 ⟨rfl, hb10⟩; obtain ⟨_, ya0, ya1⟩ := hca.later hb10; obtain ⟨_, yb0, yb1⟩ := hda.later hb10; obtain ⟨_, yc0, yc1⟩ := hc9.later hb10; have x1 := HTx.out w10 xo5 xc5 (hAa.below hb10); have x2 := HTx.out w10 xo6 xc6 (hEa.below hb10); have x3 := HTx.out w10 xo9 xc9 (HA9.out.below hb10)))
        all_goals go_ret
        all_goals exact ⟨by first | rfl | simp, hBa.trans (hb10.mono hBa.size)⟩
      · go_wp2_with (first | (go_at_call 14; refine hsm.mono ?_; rintro e w10 ⟨rfl, hb10⟩; obtain ⟨_, ya0, ya1⟩ := hca.later hb10; obtain ⟨_, yb0, yb1⟩ := hda.later hb10; obtain ⟨_, yc0, yc1⟩ := hc9.later hb10; have x1 := HTx.out w10 xo5 xc5 (hAa.below hb10); have x2 := HTx.out w10 xo6 xc6 (hEa.below hb10); have x3 := HTx.out w10 xo9 xc9 (HA9.out.below hb10)))
        all_goals go_ret
        all_goals exact ⟨by first | rfl | simp, hBa.trans (hb10.mono hBa.size)⟩

set_option maxRecDepth 20000 in
theorem tapeAgain_contract (H : Type) (enc : TypeId × Value → H) (W : World) (base : Nat) (args : Array Value) (ds gs : List (DataW H)) (before : List MemPlace)
    (hval : ∀ (j : Nat) t v, Try.f7.params[j]? = some t → args[j]? = some v → Value.okWide Try.prog W .any base t v)
    (hW : DataW.Whole enc Try.prog Try.f7.params.toList Rows.tapeAgainSpec.vars false W args.toList ds gs before)
    (hsz0 : (DataW.weightsEach Try.prog (Try.f7.params.toList ++ (OpenSpec.ofChange Rows.tapeAgainSpec).bare.plain.varTypes Try.prog) (ds ++ gs)).all (· ≤ reachBytes) = true)
    (_hL : laidMetH Try.prog Rows.tapeAgainRow.laid W) :
    Calls Try.prog 7 args W fun e W' => ∃ v, e = .returned v ∧ Rows.tapeAgainSpec.post enc Try.prog Try.f7 false true false false W args v W' := by
  have hW' := hW
  obtain ⟨p, q, hA0, hV, rfl, hfz, hnd⟩ := hW
  have hA : DataW.TrodAll enc Try.prog W 0 (fun _ => true) true Try.f7.params.toList args.toList ds p := hA0
  rw [Try.params7] at hA hval
  obtain ⟨v0, vs0, d0, ds0, p0, q0, hargs, rfl, rfl, h0, r0⟩ := trodAll_cons hA
  obtain ⟨v1, vs1, d1, ds1, p1, q1, rfl, rfl, rfl, h1, r1⟩ := trodAll_cons r0
  obtain ⟨v2, vs2, d2, ds2, p2, q2, rfl, rfl, rfl, h2, r2⟩ := trodAll_cons r1
  obtain ⟨rfl, rfl, rfl⟩ := trodAll_nil r2
  obtain rfl : args = #[v0, v1, v2] := by cases args; simp_all
  obtain ⟨rfl, rfl⟩ := trodVars_none hV
  have hsz : (DataW.weightsEach Try.prog [27, 22, 3] [d0, d1, d2]).all (· ≤ reachBytes) = true := hsz0
  obtain ⟨ls, hV, hz⟩ := open_rawlists (hval 0 27 v0 rfl rfl) h0 hsz (j := 0) rfl rfl
  obtain ⟨jl, hJ, hjl⟩ := open_bytes (hval 1 22 v1 rfl rfl) h1 hsz (j := 1) rfl rfl
  obtain ⟨x, rfl, rfl, rfl, wf2⟩ := open_int Try.underlying3 (hval 2 3 v2 rfl rfl) h2
  refine (tapeAgain_walk v0 ls v1 jl x W (bounds_i64 wf2) hz hjl hV hJ).mono fun e W' ⟨he, hb⟩ => ⟨_, he, ?_⟩
  refine law_post (fun t ht => ?_) rfl (by kernel_rfl) hW' rfl rfl rfl hb
  rw [Try.params7] at ht
  simp only [List.mem_cons, List.not_mem_nil, or_false] at ht
  rcases ht with rfl | rfl | rfl
  · exact ⟨by kernel_rfl, of_decide_eq_true (by kernel_rfl)⟩
  · exact ⟨by kernel_rfl, of_decide_eq_true (by kernel_rfl)⟩
  · exact ⟨by kernel_rfl, of_decide_eq_true (by kernel_rfl)⟩

/-- A WORLD FOR THE WITNESS: the settled one. -/
noncomputable def tapeAgainWorld (os : Os) : World := World.holding Try.prog os ⟨#[], #[], []⟩
set_option maxRecDepth 20000 in
theorem tapeAgain_met (os : Os) : laidMet Try.prog Rows.tapeAgainRow.laid ((tapeAgainWorld os).forCall (fun _ _ => 0) ⟨#[], #[.slice none 0 0, .slice none 0 0, .int .i64 0], []⟩).memory :=
  laidMet_of_run' 8 (by kernel_rfl) (by kernel_rfl)
set_option maxRecDepth 20000 in
theorem tapeAgain_reads (os : Os) {H : Type} (enc : TypeId × Value → H) : ∃ places, DataW.whole enc Try.prog ((tapeAgainWorld os).forCall (fun _ _ => 0) ⟨#[], #[.slice none 0 0, .slice none 0 0, .int .i64 0], []⟩).memory Try.f7.params.toList Rows.tapeAgainSpec.vars false #[Value.slice none 0 0, .slice none 0 0, .int .i64 0].toList 8 = some ([.nil, .nil, .lit (.int .i64 0)], [], places) :=
  ⟨[], by kernel_rfl⟩

set_option maxRecDepth 100000 in
theorem tapeAgain_lifted (os : Os) (started : os.Started) (H : Type) (enc : TypeId × Value → H) (F : Stop.Interp) :
    ReturnsInHanded {} Try.checked os 7 .any ((OpenSpec.ofChange Rows.tapeAgainSpec).preRow enc Try.prog Try.f7 Rows.tapeAgainRow.domain false Rows.tapeAgainRow.laid) (((OpenSpec.ofChange Rows.tapeAgainSpec).at F).post enc Try.prog Try.f7 false true false false) := by
  obtain ⟨places, hx⟩ := tapeAgain_reads os enc
  refine returnsInHanded_of_row (C := Try.checked) (s := OpenSpec.ofChange Rows.tapeAgainSpec) own started (by kernel_rfl) Try.func7
    (witness_row_at (enc := enc) (C := Try.checked) false (tapeAgainWorld os) #[.slice none 0 0, .slice none 0 0, .int .i64 0] rfl (by kernel_rfl) (by kernel_rfl) (by kernel_rfl)
      (OpenSpec.preRow_of_cond 8 hx (by kernel_rfl) (fun k hk => by cases hk) (by kernel_rfl) (tapeAgain_met os))) ?_
  intro W base args ds gs before hval hW _ _ hsz hL _ _
  exact tapeAgain_contract H enc W base args ds gs before hval hW hsz hL

set_option maxRecDepth 20000 in
theorem tapeAgain_said : Rows.TapeAgainSaid :=
  OpenClaim.holds_of_cond 7 Try.f7 rfl rfl rfl rfl rfl rfl rfl ⟨rfl, rfl, rfl, rfl, rfl⟩ rfl rfl rfl rfl rfl (by kernel_rfl) Try.func7 (by kernel_rfl)
    (of_decide_eq_true (by kernel_rfl)) (by unfold Func.isWrapper; first | (rw [if_pos (by decide +kernel)]; kernel_rfl) | (rw [if_neg (by decide +kernel)]; exact ⟨rfl, rfl⟩))
    (fun os started H enc _ F => by rw [OpenClaim.pre_eq_preRow]; exact tapeAgain_lifted os started H enc F)

#print axioms tapeAgain_said
end Go.Proofs.Ytjnobdpjohbdnaa
