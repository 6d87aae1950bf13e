/-
  The contracts of polish.Depth and of the document's DepthOf.
-/
import Derived.Test.YtkdbblchkkemgaaDoorRefSplit
namespace Go.Proofs.YtkdbblchkkemgaaDoor
open Go.ChangeShapes Go.WideShapes Go.ChangeAt Go.RowKit Go.Deep
open Terms

/-- the parts of what begins at a place, seen from the whole list. -/
theorem place_step {ks : List Int} {place m j : Nat} (h : cnt (ks.drop place) 1 = .ok m) (hj : j < pn ((ks.drop place).getD 0 0)) :
    ∃ m', cnt (ks.drop (place + pos (ks.drop place) j)) 1 = .ok m' ∧ 1 ≤ m' ∧ 1 ≤ pos (ks.drop place) j ∧ endAt ks (place + pos (ks.drop place) j) = place + pos (ks.drop place) (j + 1) ∧ pos (ks.drop place) (j + 1) = pos (ks.drop place) j + m' ∧ pos (ks.drop place) (j + 1) ≤ m := by
  obtain ⟨_, m', hm', h1, hp, _, hle⟩ := one_step h hj
  rw [List.drop_drop] at hm'
  have := pos_ge h (j := j) (by omega)
  exact ⟨m', hm', h1, by omega, by rw [endAt_ok hm']; omega, hp, hle⟩

set_option maxHeartbeats 1000000 in
theorem depthAt_any (B n : Nat) (ks : List Int) (h60 : n ≤ 60) (hks : ks.length = n) (w : World) (hrow : w.rowIs B 3 n (fun q => .int .i64 (endAt ks q))) (d : Nat) : ∀ (place m : Nat), n - place ≤ d → cnt (ks.drop place) 1 = .ok m →
    Calls Tryd.prog 28 #[.slice (some ⟨B, 0, none⟩) n n, .int .i64 place] w fun e w' => e = .returned (.int .i64 (D (ks.drop place))) ∧ w' = w := by
  induction d with
  | zero =>
    intro place m hd h
    have := cnt_le _ _ _ h
    rw [List.length_drop] at this
    omega
  | succ d ih =>
    intro place m hd h
    have hle := cnt_le _ _ _ h
    rw [List.length_drop] at hle
    have hcp := hrow.cell (i := place) (by omega)
    rw [endAt_ok h] at hcp
    have HD := (show Hid _ from D_eq h)
    have HR : Hid (w.rowIs B 3 n (fun q => .int .i64 (endAt ks q))) := hrow
    have H : Hid (cnt (ks.drop place) 1 = .ok m) := h
    have HLast := (show Hid _ from one_last h)
    obtain ⟨np, hnp⟩ : ∃ np, np = pn ((ks.drop place).getD 0 0) := ⟨_, rfl⟩
    have HP : Hid (np = pn ((ks.drop place).getD 0 0)) := hnp
    rw [← hnp] at HD HLast
    have HB : Hid (∀ j, j < np → D ((ks.drop place).drop (pos (ks.drop place) j)) ≤ 60) := fun j hj => by
      obtain ⟨m', a, b, c, _⟩ := place_step h (j := j) (by rw [← hnp]; exact hj)
      rw [List.drop_drop]
      have h2 := D_le _ _ _ (Nat.le_refl _) a
      have := cnt_le _ _ _ a
      rw [List.length_drop] at this
      omega
    have hpl : place < n := by omega
    have hmn : place + m ≤ n := by omega
    have HL : Hid (ks.length = n) := hks
    clear h hrow hnp hks
    go_enter Tryd.func28, Tryd.ntmps28
    go_wp2_with fail
    go_loop [5, 6] (fun dp pt => ∃ i : Nat, i ≤ np ∧ pt = .int .i64 ((place + pos (ks.drop place) i : Nat) : Int) ∧ dp = .int .i64 (maxTo i (fun j => D ((ks.drop place).drop (pos (ks.drop place) j))) : Nat)) (fun _ pt => place + m - (intOf pt).toNat)
    case atStart => exact ⟨0, Nat.zero_le _, by rw [pos_zero]; rfl, rfl⟩
    case round =>
      obtain ⟨i, hi, rfl, rfl⟩ := hrel
      by_cases hlt : i < np
      · obtain ⟨m', hm', h1, hp1, he, hp2, hp3⟩ := place_step H.out (j := i) (by rw [← HP.out]; exact hlt)
        have hci := HR.out.cell (i := place + pos (ks.drop place) i) (by omega)
        rw [he] at hci
        have hrec := ih _ m' (by omega) hm'
        have hmx := maxTo_le (g := fun j => D ((ks.drop place).drop (pos (ks.drop place) j))) (b := 60) i (fun j hj => HB.out j (by omega))
        have hdi := HB.out i hlt
        have HS : Hid (maxTo (i + 1) (fun j => D ((ks.drop place).drop (pos (ks.drop place) j))) = max (maxTo i (fun j => D ((ks.drop place).drop (pos (ks.drop place) j)))) (D ((ks.drop place).drop (pos (ks.drop place) i)))) := rfl
        rw [List.drop_drop] at hdi HS
        have hpp : pos (ks.drop place) i < pos (ks.drop place) (i + 1) := by omega
        clear he hm' hp2
        obtain ⟨p', hp'⟩ : ∃ p', p' = pos (ks.drop place) (i + 1) := ⟨_, rfl⟩
        rw [← hp'] at hci hp3 hpp
        have HQ : Hid (p' = pos (ks.drop place) (i + 1)) := hp'
        clear hp'
        generalize pos (ks.drop place) i = p at *
        generalize maxTo i (fun j => D ((ks.drop place).drop (pos (ks.drop place) j))) = mx at *
        generalize D (ks.drop (place + p)) = dd at *
        go_wp2_with (go_at_call 28; refine hrec.mono ?_; rintro e w' ⟨rfl, rfl⟩)
        all_goals
          go_round
          case rel => exact ⟨i + 1, by omega, by rw [HQ.out]; go_num, by rw [HS.out]; go_num⟩
          case measure => simp [intOf]; omega
      · have hin : i = np := by omega
        subst hin
        have hl := HLast.out
        have hmx := maxTo_le (g := fun j => D ((ks.drop place).drop (pos (ks.drop place) j))) (b := 60) i (fun j hj => HB.out j (by omega))
        rw [hl]
        generalize maxTo i (fun j => D ((ks.drop place).drop (pos (ks.drop place) j))) = mx at *
        clear hlt hi hl
        go_wp2_with fail
        go_ret
        exact ⟨ret_int (by rw [HD.out]; omega), rfl⟩

def depthV (ks : List Int) : Nat := if endsCode ks = 0 then D ks else 0

/-- THE CONTRACT OF polish.Depth. -/
theorem depth_any (v : Value) (ks : List Int) (w : World) (hB : 0 < w.heap.size) (hT : TabAt w) (hK : Kinds w v ks) :
    Calls Tryd.prog 19 #[v] w fun e w' => e = .returned (.tuple #[.int .i64 (depthV ks : Nat), .int .i64 (endsCode ks)]) ∧ Below w.heap.size w w' := by
  have hends := ends_any v ks w hB hT hK
  by_cases hz : endsCode ks = 0
  · obtain ⟨h60, hone⟩ := code_zero hz
    have hv : depthV ks = D ks := by unfold depthV; rw [if_pos hz]
    rw [hv, hz]
    obtain ⟨n, hn⟩ : ∃ n, ks.length = n := ⟨_, rfl⟩
    have hends2 : Calls Tryd.prog 12 #[v] w fun e w' => Below w.heap.size w w' ∧ ∃ B, w.heap.size ≤ B ∧ e = .returned (.tuple #[.slice (some ⟨B, 0, none⟩) n n, .int .i64 0]) ∧ w'.rowIs B 3 n (fun q => .int .i64 (endAt ks q)) :=
      hends.mono fun e w' ⟨h1, _, h3⟩ => ⟨h1, by have := h3 hz; rwa [hn] at this⟩
    have HN : Hid (ks.length = n) := hn
    have HO : Hid (cnt ks 1 = .ok ks.length) := hone
    have H60 : Hid (ks.length ≤ 60) := h60
    clear hends hz hone h60 hn hv hK hT
    go_enter Tryd.func19, Tryd.ntmps19
    go_wp2_with (go_at_call 12; refine hends2.mono ?_; rintro e w1 ⟨hb1, B, hBw, rfl, hrow⟩)
    have hd := depthAt_any B n ks (by rw [← HN.out]; exact H60.out) HN.out w1 hrow n 0 ks.length (by omega) (by rw [List.drop_zero]; exact HO.out)
    rw [List.drop_zero] at hd
    clear hrow
    go_wp2_with (go_at_call 28; refine hd.mono ?_; rintro e w2 ⟨rfl, rfl⟩)
    go_ret2
    exact ⟨rfl, hb1⟩
  · have hv : depthV ks = 0 := by unfold depthV; rw [if_neg hz]
    rw [hv]
    have hends2 : Calls Tryd.prog 12 #[v] w fun e w' => e = .returned (.tuple #[.slice none 0 0, .int .i64 (endsCode ks)]) ∧ Below w.heap.size w w' := hends.mono fun e w' ⟨h1, h2, _⟩ => ⟨h2 hz, h1⟩
    clear hends hv hK hT
    generalize endsCode ks = x at *
    go_enter Tryd.func19, Tryd.ntmps19
    go_wp2_with (go_at_call 12; refine hends2.mono ?_; rintro e w1 ⟨rfl, hb1⟩)
    go_ret2
    exact ⟨rfl, hb1⟩

theorem seg_map (l : List (Int × Int)) (a b : Nat) : (seg l a b).map Prod.fst = seg (l.map Prod.fst) a b := by simp [seg]

/-- each part is one term, and as deep as what begins there. -/
theorem part_term {ks : List Int} {n j : Nat} (h60 : n ≤ 60) (h : cnt ks 1 = .ok n) (hj : j < pn (ks.getD 0 0)) :
    endsCode (seg ks (pos ks j) (pos ks (j + 1))) = 0 ∧ D (seg ks (pos ks j) (pos ks (j + 1))) = D (ks.drop (pos ks j)) ∧ (seg ks (pos ks j) (pos ks (j + 1))).length < n := by
  obtain ⟨hp, m, hm, h1, hp2, _, hle⟩ := one_step h hj
  have hge := pos_ge h (j := j) (by omega)
  have hn := (cnt_le _ _ _ h).2
  have hs : seg ks (pos ks j) (pos ks (j + 1)) = (ks.drop (pos ks j)).take m := by unfold seg; rw [hp2]; congr 1; omega
  have hl : ((ks.drop (pos ks j)).take m).length = m := by simp; omega
  rw [hs]
  refine ⟨?_, D_take _ _ _ _ (Nat.le_refl _) hm (Nat.le_refl _), by omega⟩
  unfold endsCode
  rw [hl, if_neg (by omega), cnt_take _ _ _ _ hm (Nat.le_refl _)]
  simp

set_option maxHeartbeats 1000000 in
theorem depthOf_ok (d : Nat) : ∀ (v : Value) (l : List (Int × Int)) (w : World), l.length ≤ d → OpsV w v l → endsCode (l.map Prod.fst) = 0 →
    Calls Tryd.prog 20 #[v] w fun e w' => e = .returned (.tuple #[.int .i64 (D (l.map Prod.fst) : Nat), .int .i64 0]) ∧ Below w.heap.size w w' := by
  induction d with
  | zero =>
    intro v l w hd _ hz
    obtain ⟨_, hone⟩ := code_zero hz
    have := (cnt_le _ _ _ hone).1
    rw [List.length_map] at this
    omega
  | succ d ih =>
    intro v l w hd hV hz
    obtain ⟨h60, hone⟩ := code_zero hz
    have hsp : Calls Tryd.prog 17 #[v] w fun e w' => ∃ v', e = .returned (.tuple #[v', .int .i64 0]) ∧ Below w.heap.size w w' ∧ TermsV w' v' (splitTo l (pn ((l.map Prod.fst).getD 0 0))) := by
      refine (splitOf_any v l w hV).mono fun e w' ⟨v', he, hb, ht⟩ => ⟨v', by rw [hz] at he; exact he, hb, ?_⟩
      unfold splitL at ht
      rwa [if_pos hz] at ht
    have hlk : (l.map Prod.fst).length = l.length := List.length_map ..
    have HD := (show Hid _ from D_eq hone)
    generalize hks : l.map Prod.fst = ks at *
    rw [hlk] at hone h60
    have HO : Hid (cnt ks 1 = .ok l.length) := hone
    have HKS : Hid (l.map Prod.fst = ks) := hks
    have H60 : Hid (l.length ≤ 60) := h60
    obtain ⟨np, hnp⟩ : ∃ np, np = pn (ks.getD 0 0) := ⟨_, rfl⟩
    have HP : Hid (np = pn (ks.getD 0 0)) := hnp
    have hnp2 : np ≤ 2 := by rw [hnp]; exact pn_le _
    rw [← hnp] at hsp HD
    have HB : Hid (∀ j, j < np → D (ks.drop (pos ks j)) ≤ 60) := fun j hj => by
      obtain ⟨_, m', a, _⟩ := one_step hone (j := j) (by rw [← hnp]; exact hj)
      have h2 := D_le _ _ _ (Nat.le_refl _) a
      have := cnt_le _ _ _ a
      rw [List.length_drop] at this
      omega
    clear hz hone h60 hlk hks hnp hV
    go_enter Tryd.func20, Tryd.ntmps20
    go_wp2_with (go_at_call 17; refine hsp.mono ?_; rintro e w1 ⟨tv, rfl, hb1, ht⟩; obtain ⟨ao, cap, htv, hat⟩ := ht; rw [splitTo_len] at htv; subst htv)
    have HT := (show Hid _ from hat)
    clear hat
    go_loopw [6, 7] (fun mo c wr => ∃ i : Nat, i ≤ np ∧ c = .int .i64 i ∧ mo = .int .i64 (maxTo i (fun j => D (ks.drop (pos ks j))) : Nat) ∧ Below w1.heap.size w1 wr) (fun _ c _ => np - (intOf c).toNat)
    case atStart => exact ⟨0, Nat.zero_le _, rfl, rfl, Below.refl _ _⟩
    case round =>
      obtain ⟨i, hi, rfl, rfl, hbel⟩ := hrel
      have hmx := maxTo_le (g := fun j => D (ks.drop (pos ks j))) (b := 60) i (fun j hj => HB.out j (by omega))
      by_cases hlt : i < np
      · obtain ⟨b, off, rfl, hbl, hcs⟩ := HT.out (by intro h; have := congrArg List.length h; rw [splitTo_len] at this; simp at this; omega)
        obtain ⟨u, hu, hou⟩ := hcs i (by rw [splitTo_len]; exact hlt)
        have hcu := (hbel.cell (p := ⟨b, off + i, none⟩) hbl).trans hu
        have hgd : (splitTo l np).getD i [] = seg l (pos ks i) (pos ks (i + 1)) := by
          unfold splitTo
          rw [List.getD_eq_getElem?_getD, List.getElem?_map, List.getElem?_range hlt, HKS.out]
          rfl
        rw [hgd] at hou
        obtain ⟨p1, p2, p3⟩ := part_term H60.out HO.out (j := i) (by rw [← HP.out]; exact hlt)
        have hlen : (seg l (pos ks i) (pos ks (i + 1))).length < l.length := by rw [← HKS.out, ← seg_map, List.length_map] at p3; rwa [HKS.out] at p3
        have hrec := ih u _ wr (by omega) (hou.below hbel) (by rw [seg_map, HKS.out]; exact p1)
        rw [seg_map, HKS.out, p2] at hrec
        have hdi := HB.out i hlt
        have HS : Hid (maxTo (i + 1) (fun j => D (ks.drop (pos ks j))) = max (maxTo i (fun j => D (ks.drop (pos ks j)))) (D (ks.drop (pos ks i)))) := rfl
        obtain ⟨u1, u2, u3, hus⟩ : ∃ a b c, u = .slice a b c := by obtain ⟨a, c, rfl, _⟩ := hou; exact ⟨_, _, _, rfl⟩
        subst hus
        clear hgd hou hu hcs p1 p2 p3 hlen
        generalize D (ks.drop (pos ks i)) = dd at *
        generalize maxTo i (fun j => D (ks.drop (pos ks j))) = mx at *
        go_wp2_with (go_at_call 20; refine hrec.mono ?_; rintro e w2 ⟨rfl, hb2⟩)
        all_goals
          go_roundw
          case rel => exact ⟨i + 1, by omega, by go_num, by rw [HS.out]; go_num, hbel.trans (hb2.mono hbel.size)⟩
          case measure => simp [intOf]; omega
      · have hin : i = np := by omega
        subst hin
        generalize maxTo i (fun j => D (ks.drop (pos ks j))) = mx at *
        clear hlt hi
        go_wp2_with fail
        go_ret2
        exact ⟨ret_two (by rw [HD.out]; omega) rfl, hb1.trans (hbel.mono hb1.size)⟩

/-- THE CONTRACT OF DepthOf. -/
theorem depthOf_any (v : Value) (l : List (Int × Int)) (w : World) (hV : OpsV w v l) :
    Calls Tryd.prog 20 #[v] w fun e w' => e = .returned (.tuple #[.int .i64 (depthV (l.map Prod.fst) : Nat), .int .i64 (endsCode (l.map Prod.fst))]) ∧ Below w.heap.size w w' := by
  by_cases hz : endsCode (l.map Prod.fst) = 0
  · have hv : depthV (l.map Prod.fst) = D (l.map Prod.fst) := by unfold depthV; rw [if_pos hz]
    rw [hv, hz]
    exact depthOf_ok _ v l w (Nat.le_refl _) hV hz
  · have hv : depthV (l.map Prod.fst) = 0 := by unfold depthV; rw [if_neg hz]
    rw [hv]
    have hsp := splitOf_no v _ w hV.kinds hz
    clear hv hV
    generalize endsCode (l.map Prod.fst) = x at *
    go_enter Tryd.func20, Tryd.ntmps20
    go_wp2_with (go_at_call 17; refine hsp.mono ?_; rintro e w1 ⟨rfl, hb1⟩)
    go_ret2
    exact ⟨rfl, hb1⟩
end Go.Proofs.YtkdbblchkkemgaaDoor
