/-
  The document's numbersUp: numbers, one by one put where they belong.
-/
import Derived.Test.YtjapkkdbmpcoeaaURef
namespace Go.Proofs.Ytjapkkdbmpcoeaa
open Go.ChangeShapes Go.WideShapes Go.ChangeAt Go.RowKit Go.Deep

/-- x at place k of P. -/
def insL (P : List Int) (x : Int) (k : Nat) : List Int := P.take k ++ x :: P.drop k
theorem insL_length {P : List Int} {x : Int} {k : Nat} (h : k ≤ P.length) : (insL P x k).length = P.length + 1 := by
  simp [insL]; omega
theorem insL_perm (P : List Int) (x : Int) (k : Nat) : (insL P x k).Perm (x :: P) := by
  unfold insL
  refine List.perm_middle.trans ?_
  rw [List.take_append_drop]
theorem insL_at {P : List Int} {x : Int} {k : Nat} (h : k ≤ P.length) : (insL P x k).getD k 0 = x := by
  rw [insL, getD_app, if_neg (by simp; omega)]
  simp [Nat.min_eq_left h]
theorem insL_ahead {P : List Int} {x : Int} {k : Nat} (h : k < P.length) : (insL P x (k + 1)).getD k 0 = P.getD k 0 := by
  rw [insL, getD_app, if_pos (by simp; omega), getD_take _ (by omega)]
theorem insL_end (P : List Int) (x : Int) : insL P x P.length = P ++ [x] := by simp [insL]
theorem insL_swap {P : List Int} {x : Int} {k : Nat} (h : k < P.length) : ((ivals (insL P x (k + 1))).set (k + 1) (.int .i64 (P.getD k 0))).set k (.int .i64 x) = ivals (insL P x k) := by
  have e1 : insL P x (k + 1) = P.take k ++ P.getD k 0 :: x :: P.drop (k + 1) := by rw [insL, take_get h 0]; simp
  have e2 : insL P x k = P.take k ++ x :: P.getD k 0 :: P.drop (k + 1) := by rw [insL, drop_get h 0]
  have hl : (ivals (P.take k)).length = k := by rw [ivals_length, List.length_take]; omega
  rw [e1, e2, ivals_append, ivals_append, List.set_append_right _ _ (by omega), List.set_append_right _ _ (by omega), hl]
  simp [ivals]
theorem insL_done {P : List Int} {x : Int} {k : Nat} (hk : k ≤ P.length) (hs : P.Pairwise (· ≤ ·)) (h1 : ∀ y ∈ P.drop k, x < y) (h2 : k = 0 ∨ ¬ x < P.getD (k - 1) 0) : (insL P x k).Pairwise (· ≤ ·) := by
  have hp : P.take k ++ P.drop k = P := List.take_append_drop k P
  have hs' := hs
  rw [← hp] at hs'
  obtain ⟨s1, s2, s3⟩ := List.pairwise_append.1 hs'
  have hle : ∀ y ∈ P.take k, y ≤ x := by
    intro y hy
    rcases h2 with h2 | h2
    · subst h2; simp at hy
    · rcases Nat.eq_zero_or_pos k with h0 | h0
      · subst h0; simp at hy
      · have ek : P.take k = P.take (k - 1) ++ [P.getD (k - 1) 0] := by rw [← take_get (by omega) 0]; congr 1; omega
        rw [ek] at hy s1
        generalize P.getD (k - 1) 0 = z at *
        rcases List.mem_append.1 hy with hy | hy
        · have := (List.pairwise_append.1 s1).2.2 y hy z (by simp); omega
        · simp at hy; omega
  refine List.pairwise_append.2 ⟨s1, List.pairwise_cons.2 ⟨fun y hy => Int.le_of_lt (h1 y hy), s2⟩, fun a ha b hb => ?_⟩
  rcases List.mem_cons.1 hb with rfl | hb
  · exact hle a ha
  · exact s3 a ha b hb
theorem up_snoc {l : List Int} {i : Nat} (hi : i < l.length) {k : Nat} (hk : k ≤ i) (h1 : ∀ y ∈ (up (l.take i)).drop k, l.getD i 0 < y) (h2 : k = 0 ∨ ¬ l.getD i 0 < (up (l.take i)).getD (k - 1) 0) : insL (up (l.take i)) (l.getD i 0) k = up (l.take (i + 1)) := by
  have hl : (up (l.take i)).length = i := by rw [up_length, List.length_take]; omega
  refine up_is (insL_done (by omega) (up_sorted _) h1 h2) ((insL_perm _ _ _).trans ?_)
  rw [take_get hi 0]
  refine ((up_perm (l.take i)).cons _).trans ?_
  exact (List.perm_append_comm (l₁ := [l.getD i 0]) (l₂ := l.take i))

theorem own_cell {w : World} {base g n cap : Nat} {l : List Int} (h : w.ownsRow base 3 1 (.slice (some ⟨g, 0, none⟩) n cap) n (ivals l)) (hl : l.length = n) {j : Nat} (hj : j < n) : w.cell? ⟨g, j, none⟩ = some (.int .i64 (l.getD j 0)) := by
  rw [h.cellAt j (by omega)]
  simp [ivals, List.getD_eq_getElem?_getD, show j < l.length by omega]
set_option maxHeartbeats 1600000 in
set_option maxRecDepth 20000 in
/-- THE CONTRACT OF numbersUp. -/
theorem rup_any (v : Value) (l : List Int) (w : World) (hl : l.length ≤ 100000) (hV : IntsV w v l) :
    Calls Try.prog 23 #[v] w fun e w' => ∃ ao cap, e = .returned (.slice ao l.length cap) ∧ Below w.heap.size w w' ∧ Hid (OwnI w' w.heap.size (.slice ao l.length cap) (up l)) := by
  obtain ⟨ao, cap, rfl⟩ := hV.shape
  obtain ⟨n, hn⟩ : ∃ n, l.length = n := ⟨_, rfl⟩
  have H : Hid (IntsV w (.slice ao l.length cap) l) := hV
  have HN : Hid (l.length = n) := hn
  rw [hn] at hl H ⊢
  clear hV hn
  go_enter Try.func23, Try.ntmps23
  go_wp2
  go_loopw [3, 4, 5, 6] (fun u i z y wr => ∃ k : Nat, k ≤ n ∧ i = .int .i64 k ∧ (∃ xo xc, u = .slice xo k xc ∧ Hid (OwnI wr w.heap.size (.slice xo k xc) (up (l.take k)))) ∧ Below w.heap.size w wr) (fun _ i _ _ _ => n - (intOf i).toNat)
  case atStart => exact ⟨0, Nat.zero_le _, rfl, ⟨none, 0, rfl, by rw [List.take_zero, show up [] = [] by simp [up]]; exact OwnI.nil _ _⟩, Below.refl _ _⟩
  case round =>
    obtain ⟨k, hk, rfl, ⟨xo, xc, rfl, HO⟩, hB⟩ := hrel
    by_cases hlt : k < n
    · have hlt2 : k < l.length := by rw [HN.out]; exact hlt
      obtain ⟨b, off, rfl, hb, _, hat⟩ := H.out.at hlt2
      have c1 := (hB.cell (p := ⟨b, off + k, none⟩) hb).trans (hat k hlt2)
      have hPl : (up (l.take k)).length = k := by rw [up_length, List.length_take]; omega
      have HDone : Hid (∀ q, q ≤ k → (∀ y ∈ (up (l.take k)).drop q, l.getD k 0 < y) → (q = 0 ∨ (up (l.take k)).getD (q - 1) 0 ≤ l.getD k 0) → insL (up (l.take k)) (l.getD k 0) q = up (l.take (k + 1))) := fun q hq h1 h2 => up_snoc hlt2 hq h1 (h2.imp_right fun h => by omega)
      have hrow := HO.out.row
      have hsz := hB.size
      clear hat HO
      generalize l.getD k 0 = x at *
      generalize up (l.take k) = P at *
      have HP : Hid (P.length = k) := hPl
      have HS : Hid (∀ (w' : World) (v : Value), w'.ownsRow w.heap.size 3 1 v (k + 1) (ivals P ++ [.int .i64 x]) → w'.ownsRow w.heap.size 3 1 v (k + 1) (ivals (insL P x k))) := fun w' v h => by
        have e : insL P x k = P ++ [x] := by rw [← HP.out]; exact insL_end P x
        rw [e, ivals_append]
        exact h
      clear hPl
      generalize wr = wo at *
      go_wp2_with (at_builtin; refine push_i x rfl _ _ rfl w.heap.size k xc xo _ rfl hrow rfl (by omega) hsz ?_; intro vo' cap' w4 ho4 hb4 _; have HO4 := HS.out w4 _ ho4; have hB4 := hB.trans hb4; clear ho4 hb4)
      obtain ⟨g, hvo⟩ : ∃ g, vo' = some ⟨g, 0, none⟩ := by
        rcases HO4.2 with ⟨h, _⟩ | ⟨g, c, cur, h, _⟩
        · cases h
        · injection h with h _ _; exact ⟨g, h⟩
      subst hvo
      have HO5 : Hid (w4.ownsRow w.heap.size 3 1 (.slice (some ⟨g, 0, none⟩) (k + 1) cap') (k + 1) (ivals (insL P x k))) := HO4
      clear HO4
      go_loopw [5, 6] (fun j y wr => ∃ q : Nat, q ≤ k ∧ j = .int .i64 q ∧ Hid (∀ y ∈ P.drop q, x < y) ∧ Hid (wr.ownsRow w.heap.size 3 1 (.slice (some ⟨g, 0, none⟩) (k + 1) cap') (k + 1) (ivals (insL P x q))) ∧ Below w.heap.size w wr) (fun j _ _ => (intOf j).toNat)
      case atStart => exact ⟨k, Nat.le_refl _, rfl, (by show ∀ y ∈ P.drop k, x < y; rw [List.drop_eq_nil_of_le (by rw [HP.out]; omega)]; simp), HO5, hB4⟩
      case round =>
        obtain ⟨q, hq, rfl, HD, HO6, hB6⟩ := hrel
        have HOut : Hid (q = 0 ∨ P.getD (q - 1) 0 ≤ x → OwnI wr w.heap.size (.slice (some ⟨g, 0, none⟩) (k + 1) cap') (up (l.take (k + 1)))) := fun h2 => by
          rw [← HDone.out q hq HD.out h2]
          unfold OwnI
          rw [insL_length (by rw [HP.out]; exact hq), HP.out]
          exact HO6.out
        rcases Nat.eq_zero_or_pos q with h0 | h0
        · subst h0
          have HOut2 : Hid (OwnI wr w.heap.size (.slice (some ⟨g, 0, none⟩) (k + 1) cap') (up (l.take (k + 1)))) := HOut.out (.inl rfl)
          clear HOut HO6 HD
          go_wp2_with fail
          go_region
          all_goals go_wp2_with fail
          all_goals go_roundw
          case rel => exact ⟨k + 1, by omega, by go_num, ⟨_, cap', rfl, HOut2⟩, hB6.drew⟩
          case measure => simp [intOf]; omega
        · obtain ⟨p, rfl⟩ : ∃ p, q = p + 1 := ⟨q - 1, by omega⟩
          have hpk : p < P.length := by rw [HP.out]; omega
          have hil : (insL P x (p + 1)).length = k + 1 := by rw [insL_length (by omega), HP.out]
          have d1 := own_cell HO6.out hil (j := p + 1) (by omega)
          have d2 := own_cell HO6.out hil (j := p) (by omega)
          rw [insL_at (by omega)] at d1
          rw [insL_ahead hpk] at d2
          have f1 := HO6.out.frozenAt (p + 1)
          have f2 := HO6.out.frozenAt p
          have HSw : Hid (((ivals (insL P x (p + 1))).set (p + 1) (.int .i64 (P.getD p 0))).set p (.int .i64 x) = ivals (insL P x p)) := insL_swap hpk
          have HDp : Hid (x < P.getD p 0 → ∀ y ∈ P.drop p, x < y) := fun h y hy => by
            rw [drop_get hpk 0] at hy
            rcases List.mem_cons.1 hy with rfl | hy
            · exact h
            · exact HD.out y hy
          have HOut' : Hid (P.getD p 0 ≤ x → OwnI wr w.heap.size (.slice (some ⟨g, 0, none⟩) (k + 1) cap') (up (l.take (k + 1)))) := fun h => HOut.out (.inr h)
          have HSt : Hid (∀ (y : Int) (nq : Nat), (((wr.drewN nq).setCell ⟨g, p + 1, none⟩ (.int .i64 y)).setCell ⟨g, p, none⟩ (.int .i64 x)).ownsRow w.heap.size 3 1 (.slice (some ⟨g, 0, none⟩) (k + 1) cap') (k + 1) (((ivals (insL P x (p + 1))).set (p + 1) (.int .i64 y)).set p (.int .i64 x)) ∧ Below w.heap.size w (((wr.drewN nq).setCell ⟨g, p + 1, none⟩ (.int .i64 y)).setCell ⟨g, p, none⟩ (.int .i64 x))) := fun y nq => by
            have h0 := owns_later HO6.out (below_drewN (Below.refl wr.heap.size wr) nq) (Nat.le_refl _)
            have h1 := h0.stored (p + 1) (.int .i64 y)
            have h2 := h1.1.stored p (.int .i64 x)
            have hg := (HO6.out.lt g rfl).1
            exact ⟨h2.1, ((below_drewN hB6 nq).setCell (p := ⟨g, p + 1, none⟩) hg _).setCell (p := ⟨g, p, none⟩) hg _⟩
          clear HOut HO6 HD hil hpk
          generalize P.getD p 0 = y at *
          obtain ⟨q, hqq⟩ : ∃ q, p + 1 = q := ⟨_, rfl⟩
          obtain ⟨kk, hkk⟩ : ∃ kk, k + 1 = kk := ⟨_, rfl⟩
          have i1 : (0 : Int) < (q : Int) := by omega
          have i1n : 0 < q := by omega
          have i1d : decide (0 < q) = true := decide_eq_true i1n
          have i2 : (q : Int) < (kk : Int) := by omega
          have i3 : (p : Int) < (kk : Int) := by omega
          have i4 : (q : Int) - 1 = (p : Int) := by omega
          have i5 : IntKind.i64.wrap ((q : Int) - 1) = (p : Int) := by rw [i4, IntWalk.i64_left]; exact IntWalk.wrap64_in _ (by omega)
          have i6 : wrap64 ((q : Int) - 1) = (p : Int) := by rw [i4]; exact IntWalk.wrap64_in _ (by omega)
          have i7 : ¬ p = q := by omega
          have i8 : ¬ q = p := by omega
          have hkn : p ≤ k := by omega
          have HPQ : Hid (p + 1 = q) := hqq
          have HKK : Hid (k + 1 = kk) := hkk
          rw [hqq] at d1 f1 HSt HSw
          rw [hkk] at HSt HOut'
          have hcast : ((p + 1 : Nat) : Int) = (q : Int) := by omega
          rw [hcast]
          rw [hkk]
          clear hqq hkk hcast i4
          by_cases hxy : x < y
          · have HR1 : Hid (∀ nq, (((wr.drewN nq).setCell ⟨g, q, none⟩ (.int .i64 y)).setCell ⟨g, p, none⟩ (.int .i64 x)).ownsRow w.heap.size 3 1 (.slice (some ⟨g, 0, none⟩) kk cap') kk (ivals (insL P x p)) ∧ Below w.heap.size w (((wr.drewN nq).setCell ⟨g, q, none⟩ (.int .i64 y)).setCell ⟨g, p, none⟩ (.int .i64 x))) := fun nq => by
              have := HSt.out y nq
              rw [HSw.out] at this
              exact this
            have hd := HDp.out hxy
            have HD2 : Hid (∀ y ∈ P.drop p, x < y) := hd
            clear HSt HSw HOut' HDp hd
            go_wp2_with fail
            go_quiet (fail)
            go_wp2_with fail
            obtain ⟨h1, h2⟩ := HR1.out nq
            exact ⟨⟨p, hkn, rfl, HD2, h1, h2⟩, by simp [intOf]; have := HPQ.out; omega⟩
          · have ho := HOut'.out (by omega)
            have HOut2 : Hid (OwnI wr w.heap.size (.slice (some ⟨g, 0, none⟩) kk cap') (up (l.take kk))) := ho
            have hyx : y ≤ x := by omega
            clear HSt HSw HOut' HDp ho
            go_wp2_with fail
            go_quiet (fail)
            go_wp2_with fail
            rw [← HKK.out] at HOut2 ⊢
            go_roundw
            case rel => exact ⟨k + 1, by omega, by go_num, ⟨_, cap', rfl, HOut2.out.later (below_drewN (Below.refl wr.heap.size wr) nq) (Nat.le_refl _)⟩, below_drewN hB6 nq⟩
            case measure => simp [intOf]; omega
    · obtain rfl : k = n := by omega
      have HF : Hid (OwnI wr w.heap.size (.slice xo k xc) (up l)) := by have h := HO.out; rw [List.take_of_length_le (by rw [HN.out]; omega)] at h; exact h
      clear HO
      go_wp2
      go_ret
      exact ⟨xo, xc, rfl, hB, HF⟩
end Go.Proofs.Ytjapkkdbmpcoeaa
