/-
  The contract of polish.Split, of the document's SplitOf, and of the laws' sameTerms.
-/
import Derived.Test.YtkdbblchkkemgaaDoorOpen
namespace Go.Proofs.YtkdbblchkkemgaaDoor
open Go.ChangeShapes Go.WideShapes Go.ChangeAt Go.RowKit Go.Deep
open Terms

/-- THE CONTRACT OF slices.Clone over ops. -/
theorem clone_any (b off m cap : Nat) (l : List (Int × Int)) (w : World) (hm : m = l.length) (hl : l.length ≤ 60) (hA : OpsAt w b off l) :
    Calls Tryd.prog 26 #[.slice (some ⟨b, off, none⟩) m cap] w fun e w' => ∃ v', e = .returned v' ∧ Below w.heap.size w w' ∧ w'.ownsRow w.heap.size 43 2 v' l.length (flat l) := by
  subst hm
  obtain ⟨i0, hi, hz0, hz1, hz2⟩ := info_parts infoOp
  have hcells := hA.cells
  clear hA
  have hnil : ∀ w : World, (binOp .eql 26 (.slice (some ⟨b, off, none⟩) l.length cap) (.slice none 0 0)).run Tryd.prog w = .ok (.bool false) w := fun w => by kernel_rfl
  go_enter Tryd.func26, Tryd.ntmps26
  go_wp2_with (at_builtin; refine wpList_append_own _ rfl (.tmp 5) (.tmp 6) 26 rfl w.heap.size 43 i0 (.agg #[.int .i64 0, .int .i64 0]) 2 16 Tryd.underlying26 hi hz0 hz1 hz2 rfl (by decide) _ _ _ rfl (World.ownsRow_lit w #[] 0 (Nat.le_refl _) (by unfold maxLen; omega) rfl) ⟨b, off, none⟩ l.length cap (flat l) rfl (flat_length l) ?c1 (flat_one l) ?c3 ?c4 ?c5 ?_)
  case c1 =>
    intro j u hj
    have h1 := hcells j u hj
    exact (((Below.refl w.heap.size w).alloc (Nat.le_refl _) _).cell (World.block_lt_of_cell? w _ h1)).trans h1
  case c3 => unfold maxLen; omega
  case c4 => omega
  case c5 => simp
  intro v' w4 hown' hgrow _
  have hb : Below w.heap.size w w4 := ((Below.refl _ _).alloc (Nat.le_refl _) _).grown hgrow (by simp) (fun q hq => by simp [Value.ownBlock] at hq; omega)
  clear hgrow hcells
  go_wp2
  go_ret
  exact ⟨_, rfl, hb, by simpa using hown'⟩

/-- two rows of other elements lie in other blocks. -/
theorem owns_apart {w : World} {base base' : Nat} {e e' : TypeId} {s s' n n' : Nat} {v v' : Value} {xs xs' : List Value} (he : e ≠ e') (h : w.ownsRow base e s v n xs) (h' : w.ownsRow base' e' s' v' n' xs') : v.ownBlock = none ∨ v.ownBlock ≠ v'.ownBlock := by
  rcases h.2 with ⟨rfl, _⟩ | ⟨g, cap, cur, rfl, _, hg, _⟩
  · exact .inl rfl
  · refine .inr fun hx => ?_
    rcases h'.2 with ⟨rfl, _⟩ | ⟨g', cap', cur', rfl, _, hg', _⟩
    · simp [Value.ownBlock] at hx
    · simp [Value.ownBlock] at hx
      subst hx
      rw [hg] at hg'
      simp at hg'
      exact he hg'.2

/-- a row of slices of ops, each in memory of the call's own. -/
def TermsOwn (w : World) (base : Nat) (v : Value) (ts : List (List (Int × Int))) : Prop :=
  ∃ us : List Value, w.ownsRow base 26 1 v ts.length us ∧ ∀ j, j < ts.length → w.ownsRow base 43 2 (us.getD j .nilIface) (ts.getD j []).length (flat (ts.getD j []))
theorem TermsOwn.nil (w : World) (base : Nat) : TermsOwn w base (.slice none 0 0) [] := ⟨[], World.ownsRow_nil _ _ _ _, fun j hj => by simp at hj⟩
theorem TermsOwn.drew {w : World} {base : Nat} {v : Value} {ts : List (List (Int × Int))} (h : TermsOwn w base v ts) : TermsOwn w.drew base v ts := h

/-- blocks from base on that nobody writes. -/
theorem owns_later {w w' : World} {base B : Nat} {e : TypeId} {s n : Nat} {v : Value} {xs : List Value} (h : w.ownsRow base e s v n xs) (hb : Below B w w') (hB : w.heap.size ≤ B) : w'.ownsRow base e s v n xs := by
  obtain ⟨h1, h2⟩ := h
  refine ⟨h1, ?_⟩
  rcases h2 with h2 | ⟨g, cap, cur, hv, hg, hh, r⟩
  · exact .inl h2
  · have hlt := (Array.getElem?_eq_some_iff.1 hh).1
    exact .inr ⟨g, cap, cur, hv, hg, (hb.block g (by omega)).trans hh, r⟩
theorem TermsOwn.later {w w' : World} {base B : Nat} {v : Value} {ts : List (List (Int × Int))} (h : TermsOwn w base v ts) (hb : Below B w w') (hB : w.heap.size ≤ B) : TermsOwn w' base v ts := by
  obtain ⟨us, h1, h2⟩ := h
  exact ⟨us, owns_later h1 hb hB, fun j hj => owns_later (h2 j hj) hb hB⟩
theorem owns_mono {w : World} {base base' : Nat} {e : TypeId} {s n : Nat} {v : Value} {xs : List Value} (h : w.ownsRow base e s v n xs) (hb : base' ≤ base) : w.ownsRow base' e s v n xs := by
  obtain ⟨h1, h2⟩ := h
  refine ⟨h1, ?_⟩
  rcases h2 with h2 | ⟨g, cap, cur, hv, hg, r⟩
  · exact .inl h2
  · exact .inr ⟨g, cap, cur, hv, by omega, r⟩

theorem owns_slice {w : World} {base : Nat} {e : TypeId} {s n : Nat} {v : Value} {xs : List Value} (h : w.ownsRow base e s v n xs) : ∃ ao cap, v = .slice ao n cap := by
  rcases h.2 with ⟨rfl, rfl⟩ | ⟨g, cap, cur, rfl, _⟩
  · exact ⟨_, _, rfl⟩
  · exact ⟨_, _, rfl⟩

/-- one term more is appended. -/
theorem TermsOwn.snoc {w wa w' : World} {base : Nat} {v v' u : Value} {ts : List (List (Int × Int))} {t : List (Int × Int)} {us : List Value}
    (hus : w.ownsRow base 26 1 v ts.length us) (hts : ∀ j, j < ts.length → w.ownsRow base 43 2 (us.getD j .nilIface) (ts.getD j []).length (flat (ts.getD j [])))
    (hu : w.ownsRow base 43 2 u t.length (flat t)) (ha : ∃ o, wa = w.alloc o) (hg : wa.grownBy w' v.ownBlock) (ho : w'.ownsRow base 26 1 v' (ts.length + 1) (us ++ [u])) : TermsOwn w' base v' (ts ++ [t]) := by
  obtain ⟨o, rfl⟩ := ha
  have hl : us.length = ts.length := by simpa using hus.1
  refine ⟨us ++ [u], by simpa using ho, fun j hj => ?_⟩
  by_cases hlt : j < ts.length
  · have h1 := (hts j hlt).alloc o
    have := h1.kept hg (owns_apart (by decide) h1 (hus.alloc o))
    simpa [List.getD_eq_getElem?_getD, List.getElem?_append_left (show j < us.length by omega), List.getElem?_append_left hlt] using this
  · have hj' : j = ts.length := by simp at hj; omega
    subst hj'
    have h1 := hu.alloc o
    have := h1.kept hg (owns_apart (by decide) h1 (hus.alloc o))
    simpa [List.getD_eq_getElem?_getD, ← hl] using this

theorem code_zero {ks : List Int} (h : endsCode ks = 0) : ks.length ≤ 60 ∧ cnt ks 1 = .ok ks.length := by
  unfold endsCode at h
  split at h
  · simp at h
  · refine ⟨by omega, ?_⟩
    cases hc : cnt ks 1 with
    | no x => rw [hc] at h; have := cnt_err _ _ _ hc; simp only at h; omega
    | ok m =>
      rw [hc] at h
      simp only at h
      split at h
      · simp at h
      · have := (cnt_le _ _ _ hc).2
        congr 1
        omega

/-- the parts of the first op of a list of ops. -/
def splitTo (l : List (Int × Int)) (i : Nat) : List (List (Int × Int)) := (List.range i).map fun j => seg l (pos (l.map Prod.fst) j) (pos (l.map Prod.fst) (j + 1))
def splitL (l : List (Int × Int)) : List (List (Int × Int)) := if endsCode (l.map Prod.fst) = 0 then splitTo l (pn ((l.map Prod.fst).getD 0 0)) else []
theorem splitTo_len (l : List (Int × Int)) (i : Nat) : (splitTo l i).length = i := by simp [splitTo]
theorem splitTo_snoc (l : List (Int × Int)) (i : Nat) : splitTo l (i + 1) = splitTo l i ++ [seg l (pos (l.map Prod.fst) i) (pos (l.map Prod.fst) (i + 1))] := by simp [splitTo, List.range_succ]

theorem OpsAt.seg {w : World} {b off : Nat} {l : List (Int × Int)} (h : OpsAt w b off l) {a c : Nat} (hc : c ≤ l.length) : OpsAt w b (off + a * 2) (seg l a c) := by
  intro i hi
  rw [seg_length hc] at hi
  have := h (a + i) (by omega)
  rw [seg_get _ hi, show off + a * 2 + i * 2 = off + (a + i) * 2 by omega]
  exact this

theorem infoOps : (Tryd.prog.info? 26).map (fun i => (i.zero, i.size, i.bytes)) = some (some (.slice none 0 0), 1, 24) := by kernel_rfl

set_option maxHeartbeats 1000000 in
theorem split_ok (b off n cap : Nat) (l : List (Int × Int)) (w : World) (hn : n = l.length) (hcap : n ≤ cap) (hbB : b < w.heap.size) (hB : 0 < w.heap.size) (hT : TabAt w) (hA : OpsAt w b off l) (hz : endsCode (l.map Prod.fst) = 0) :
    Calls Tryd.prog 16 #[.slice (some ⟨b, off, none⟩) n cap] w fun e w' => ∃ v', e = .returned (.tuple #[v', .int .i64 0]) ∧ Below w.heap.size w w' ∧ ∃ base, w.heap.size ≤ base ∧ TermsOwn w' base v' (splitTo l (pn ((l.map Prod.fst).getD 0 0))) := by
  have hK : Kinds w (.slice (some ⟨b, off, none⟩) n cap) (l.map Prod.fst) := ⟨_, cap, by rw [List.length_map, hn], fun _ => ⟨b, off, rfl, hbB, fun i hi => by
    rw [List.length_map] at hi
    rw [(hA i hi).1]
    simp [List.getD_eq_getElem?_getD, hi]⟩⟩
  have hends := ends_any _ _ w hB hT hK
  obtain ⟨h60, hone⟩ := code_zero hz
  have hlk : (l.map Prod.fst).length = n := by rw [List.length_map, hn]
  have HZ : Hid (endsCode (l.map Prod.fst) = 0) := hz
  generalize hks : l.map Prod.fst = ks at *
  rw [hlk] at hone h60
  have HO : Hid (cnt ks 1 = .ok n) := hone
  have HA : Hid (OpsAt w b off l) := hA
  have HN : Hid (n = l.length) := hn
  have HKS : Hid (l.map Prod.fst = ks) := hks
  have hends2 : Calls Tryd.prog 12 #[.slice (some ⟨b, off, none⟩) n cap] w fun e w' => Below w.heap.size w w' ∧ ∃ B, w.heap.size ≤ B ∧ e = .returned (.tuple #[.slice (some ⟨B, 0, none⟩) n n, .int .i64 0]) ∧ w'.rowIs B 3 n (fun q => .int .i64 (endAt ks q)) :=
    hends.mono fun e w' ⟨h1, _, h3⟩ => ⟨h1, by have := h3 hz; rwa [hlk] at this⟩
  clear hends hone hz hA hn hks hK hT hlk
  obtain ⟨np, hnp⟩ : ∃ np, np = pn (ks.getD 0 0) := ⟨_, rfl⟩
  have HP : Hid (np = pn (ks.getD 0 0)) := hnp
  rw [← hnp]
  have hnp2 : np ≤ 2 := by rw [hnp]; exact pn_le _
  clear hnp
  obtain ⟨i0, hi, hz0, hz1, hz2⟩ := info_parts infoOps
  go_enter Tryd.func16, Tryd.ntmps16
  go_wp2_with (go_at_call 12; refine hends2.mono ?_; rintro e w1 ⟨hb1, B, hBw, rfl, hrow⟩)
  have hBlt := hrow.lt
  go_loopw [6, 7] (fun out pl wr => ∃ i : Nat, i ≤ np ∧ pl = .int .i64 (pos ks i : Nat) ∧ TermsOwn wr w1.heap.size out (splitTo l i) ∧ Below w1.heap.size w1 wr) (fun _ pl _ => n - (intOf pl).toNat)
  case atStart => exact ⟨0, Nat.zero_le _, by rw [pos_zero]; rfl, TermsOwn.nil _ _, Below.refl _ _⟩
  case round =>
    obtain ⟨i, hile, rfl, hown, hbel⟩ := hrel
    by_cases hlt : i < np
    · obtain ⟨hp1, m, hm, hm1, hp2, hp3, hp4⟩ := one_step HO.out (j := i) (by rw [← HP.out]; exact hlt)
      have hcE := (hrow.cell hp1)
      rw [hp3] at hcE
      have hcE2 := (hbel.cell (p := ⟨B, pos ks i, none⟩) hBlt).trans hcE
      have hclone := clone_any b (off + pos ks i * 2) (pos ks (i + 1) - pos ks i) (cap - pos ks i) (seg l (pos ks i) (pos ks (i + 1))) wr (by rw [seg_length (by rw [← HN.out]; exact hp4)]) (by rw [seg_length (by rw [← HN.out]; exact hp4)]; omega) ((HA.out.below (hb1.trans (hbel.mono hb1.size)) hbB).seg (by rw [← HN.out]; exact hp4))
      have HM : Hid (pos ks (i + 1) = pos ks i + m) := hp2
      have HCE : Hid (w1.cell? ⟨B, pos ks i, none⟩ = some (.int .i64 (pos ks (i + 1)))) := hcE
      have hpi : pos ks i ≤ pos ks (i + 1) := by omega
      clear hm hp2 hp3 hcE
      have HS : Hid (splitTo l (i + 1) = splitTo l i ++ [seg l (pos ks i) (pos ks (i + 1))]) := by
        show _ = _
        rw [splitTo_snoc, HKS.out]
      obtain ⟨p', hp'⟩ : ∃ p', p' = pos ks (i + 1) := ⟨_, rfl⟩
      rw [← hp'] at hcE2 hclone HM HCE hpi hp4 HS
      have HQ : Hid (p' = pos ks (i + 1)) := hp'
      clear hp'
      generalize pos ks i = p at *
      obtain ⟨us, hus, hts⟩ := hown
      go_wp2_with (first | (go_at_call 26; refine hclone.mono ?_; rintro e w2 ⟨u, rfl, hb2, hu⟩; obtain ⟨uo, uc, rfl⟩ := owns_slice hu; have hus2 := owns_later hus hb2 (Nat.le_refl _)) | (at_builtin; refine wpList_append_own _ rfl (.tmp 24) (.tmp 33) 34 rfl w1.heap.size 26 i0 (.slice none 0 0) 1 24 Tryd.underlying34 hi hz0 hz1 hz2 rfl (by decide) _ _ _ rfl (hus2.alloc _) ⟨_, 0, none⟩ 1 1 _ rfl rfl (cell_one_new _ _ _) ?c2 ?c3 ?c4 ?c5 ?_))
      case c2 => intro u hu; simp at hu; subst hu; rfl
      case c3 => rw [splitTo_len]; unfold maxLen; omega
      case c4 => rw [splitTo_len]; omega
      case c5 => have := hbel.size; have := hb2.size; simp; omega
      intro v' w4 hown' hgrow _
      have hsz := hbel.size
      have hsz2 := hb2.size
      have hT4 : TermsOwn w4 w1.heap.size v' (splitTo l (i + 1)) := by
        rw [HS.out]
        exact TermsOwn.snoc hus2 (fun j hj => owns_later (hts j hj) hb2 (Nat.le_refl _)) (owns_mono hu hsz) ⟨_, rfl⟩ hgrow hown'
      have hb4 : Below w1.heap.size w1 w4 := ((hbel.trans (hb2.mono hsz)).alloc (by omega) _).grown hgrow (by simp; omega) (fun q hq => (hus2.lt q hq).1)
      have hc4 := (hb4.cell (p := ⟨B, p, none⟩) hBlt).trans HCE.out
      clear hown' hgrow hus2 hus hts hu hclone hends2 hcE2
      go_wp2
      go_roundw
      case rel => exact ⟨i + 1, by omega, by rw [HQ.out], hT4, hb4⟩
      case measure => have := HM.out; simp [intOf]; omega
    · have hin : i = np := by omega
      subst hin
      have hpn : pos ks i = n := by rw [HP.out]; exact one_last HO.out
      rw [hpn]
      clear hlt hile hpn
      go_wp2_with fail
      go_ret2
      exact ⟨_, rfl, hb1.trans (hbel.mono hb1.size), w1.heap.size, hb1.size, hown⟩

/-- A VALUE THAT HOLDS TERMS. -/
def TermsV (w : World) (v : Value) (ts : List (List (Int × Int))) : Prop := ∃ ao cap, v = .slice ao ts.length cap ∧ (ts ≠ [] → ∃ b off, ao = some ⟨b, off, none⟩ ∧ b < w.heap.size ∧ ∀ i, i < ts.length → ∃ u, w.cell? ⟨b, off + i, none⟩ = some u ∧ OpsV w u (ts.getD i []))
theorem TermsOwn.termsV {w : World} {base : Nat} {v : Value} {ts : List (List (Int × Int))} (h : TermsOwn w base v ts) : TermsV w v ts := by
  obtain ⟨us, h1, h2⟩ := h
  have hl : us.length = ts.length := by simpa using h1.1
  rcases h1.2 with ⟨rfl, h0⟩ | ⟨g, cap, cur, rfl, hbg, hg, _⟩
  · exact ⟨none, 0, by rw [h0], fun h => absurd (List.length_eq_zero_iff.1 h0) h⟩
  · refine ⟨_, cap, rfl, fun _ => ⟨g, 0, rfl, (Array.getElem?_eq_some_iff.1 hg).1, fun i hi => ⟨us.getD i .nilIface, ?_, opsV_of_owns (h2 i hi)⟩⟩⟩
    rw [Nat.zero_add, h1.cellAt i (by omega)]
    simp [List.getD_eq_getElem?_getD, show i < us.length by omega]
theorem TermsV.below {w w' : World} {v : Value} {ts : List (List (Int × Int))} (h : TermsV w v ts) (hb : Below w.heap.size w w') : TermsV w' v ts := by
  obtain ⟨ao, cap, rfl, h⟩ := h
  refine ⟨ao, cap, rfl, fun hne => ?_⟩
  obtain ⟨b, off, rfl, hlt, hat⟩ := h hne
  refine ⟨b, off, rfl, Nat.lt_of_lt_of_le hlt hb.size, fun i hi => ?_⟩
  obtain ⟨u, h1, h2⟩ := hat i hi
  exact ⟨u, (hb.cell (p := ⟨b, _, none⟩) hlt).trans h1, h2.below hb⟩

set_option maxHeartbeats 800000 in
theorem split_no (v : Value) (ks : List Int) (w : World) (hB : 0 < w.heap.size) (hT : TabAt w) (hK : Kinds w v ks) (hz : endsCode ks ≠ 0) :
    Calls Tryd.prog 16 #[v] w fun e w' => e = .returned (.tuple #[.slice none 0 0, .int .i64 (endsCode ks)]) ∧ Below w.heap.size w w' := by
  have hends : Calls Tryd.prog 12 #[v] w fun e w' => e = .returned (.tuple #[.slice none 0 0, .int .i64 (endsCode ks)]) ∧ Below w.heap.size w w' := (ends_any v ks w hB hT hK).mono fun e w' ⟨h1, h2, _⟩ => ⟨h2 hz, h1⟩
  generalize endsCode ks = x at *
  clear hK hT
  go_enter Tryd.func16, Tryd.ntmps16
  go_wp2_with (go_at_call 12; refine hends.mono ?_; rintro e w1 ⟨rfl, hb1⟩)
  go_ret2
  exact ⟨rfl, hb1⟩

/-- THE CONTRACT OF polish.Split. -/
theorem split_any (v : Value) (l : List (Int × Int)) (w : World) (hB : 0 < w.heap.size) (hT : TabAt w) (hV : OpsV w v l) :
    Calls Tryd.prog 16 #[v] w fun e w' => ∃ v', e = .returned (.tuple #[v', .int .i64 (endsCode (l.map Prod.fst))]) ∧ Below w.heap.size w w' ∧ TermsV w' v' (splitL l) := by
  by_cases hz : endsCode (l.map Prod.fst) = 0
  · obtain ⟨h60, hone⟩ := code_zero hz
    have hne : l ≠ [] := by intro h; subst h; simp [cnt] at hone
    obtain ⟨ao, cap, rfl, hc, h⟩ := hV
    obtain ⟨b, off, rfl, hlt, hat⟩ := h hne
    refine (split_ok b off _ cap l w rfl hc.1 hlt hB hT hat hz).mono fun e w' ⟨v', he, hb, base, _, ht⟩ => ⟨v', by rw [hz]; exact he, hb, ?_⟩
    unfold splitL
    rw [if_pos hz]
    exact ht.termsV
  · refine (split_no v _ w hB hT hV.kinds hz).mono fun e w' ⟨he, hb⟩ => ⟨_, he, hb, ?_⟩
    unfold splitL
    rw [if_neg hz]
    exact ⟨none, 0, rfl, fun h => absurd rfl h⟩
end Go.Proofs.YtkdbblchkkemgaaDoor
