/-
  Proved: foretellkeep.ReachClosed answers true at every design (what is reached reaches on, and the first state is; each other one is behind one that is; they rise), given that the table polish.partCounts reads as its initialiser lays it, which the card ties to the program's text. No other condition.
-/
import Derived.Test.YtflmefohofocaaaDoorCards
import Derived.Test.YtflmefohofocaaaDoorTie
import Derived.Test.YtflmefohofocaaaDoorRow
import Derived.Test.YtflmefohofocaaaDoorKeepDesign
import Derived.Test.YtflmefohofocaaaDoorLate
namespace Go.Proofs.YtflmefohofocaaaDoor
open Go.ChangeShapes Go.WideShapes Go.ChangeAt Go.RowKit Go.Deep
open Terms Tm

set_option maxRecDepth 20000 in
theorem undrewK {a b : World} (h : Below a.drew.heap.size a.drew b) : Below a.heap.size a b := ⟨h.os, h.tape, h.output, h.size, h.block⟩
set_option maxHeartbeats 3200000 in
set_option maxRecDepth 20000 in
theorem reachClosed_walk (c0 c1 c2 c3 c4 c5 c6 : Value) (a b : Vr) (w : World) (hB : 0 < w.heap.size) (hT : TabAt w) (hG : GV a b)
    (hmd : ∀ w', Below w.heap.size w w' → Calls Tryd.prog 8 #[.agg #[c0, c1, c2, c3, c4, c5, c6]] w' fun e w2 => ∃ va vr, e = .returned (.agg #[va, vr]) ∧ Below w'.heap.size w' w2 ∧ GModel w2 va vr [a, b]) :
    Calls Tryd.prog 4 #[.agg #[c0, c1, c2, c3, c4, c5, c6]] w fun e w' => e = .returned (.bool true) ∧ Below w.heap.size w w' := by
  have HT : Hid (∀ w', Below w.heap.size w w' → 0 < w'.heap.size ∧ TabAt w') := fun w' hb => ⟨Nat.lt_of_lt_of_le hB hb.size, hT.below hb hB⟩
  have hA : ∀ o, Below w.heap.size w (w.alloc o) := fun o => (Below.refl _ _).alloc (Nat.le_refl _) o
  clear hB hT
  go_enter Tryd.func4, Tryd.ntmps4
  go_wp2_with (go_at_call 8; refine (hmd _ (hA _)).mono ?_; rintro e w1 ⟨va, vr, rfl, hb1, hM⟩; obtain ⟨ao, cap, ro, rn, rc, rfl, rfl, hrn⟩ := hM.shape)
  obtain ⟨hbW, hk⟩ := kept (a := a) (b := b) (t := 29) HT.out ((hA _).trans (hb1.mono (hA _).size)) hM rfl
  generalize w1.alloc (.cells #[.slice ao 2 cap, .slice ro rn rc] 29) = W2 at hbW hk ⊢
  have HK : Hid (∀ w', Below W2.heap.size W2 w' → w'.cell? ⟨w1.heap.size, 0, none⟩ = some (.slice ao 2 cap) ∧ w'.cell? ⟨w1.heap.size, 1, none⟩ = some (.slice ro rn rc)) := fun w' hb => (hk w' hb).2
  have HBW : Hid (Below w.heap.size w W2) := hbW
  obtain ⟨⟨z0, z1, z2⟩, z3, z4⟩ := hk W2 (Below.refl _ _)
  obtain ⟨rules, g1, g2, g3⟩ := z2
  have hm : mcode ⟨[a, b], rules⟩ = 0 := hG.mcode (by omega) g3
  have HCl : Hid (Closed (nextL ⟨[a, b], rules⟩) (firstC ⟨[a, b], rules⟩) (reachL ⟨[a, b], rules⟩) (vspan a * vspan b)) := reach_closed hG g2 g3
  have hre := fun w' (hb : Below W2.heap.size W2 w') => reach_any _ _ ⟨[a, b], rules⟩ w' (hk w' hb).1.1 (hk w' hb).1.2.1 (g1.below hb)
  have hfi := fun w' (hb : Below W2.heap.size W2 w') => mfirst_any _ _ ⟨[a, b], rules⟩ w' (hk w' hb).1.1 (hk w' hb).1.2.1 (g1.below hb)
  rw [hm] at hre
  rw [hm, if_pos rfl] at hfi
  change ∀ w', Below W2.heap.size W2 w' → Calls Tryd.prog 13 #[.agg #[.slice ao 2 cap, .slice ro rn rc]] w' fun e w2 => e = .returned (.tuple #[.int .i64 (firstC ⟨[a, b], rules⟩), .int .i64 0]) ∧ Below w'.heap.size w' w2 at hfi
  have HNx : Hid (∀ w' (_ : Below W2.heap.size W2 w') (c : Int), 0 ≤ c ∧ c < vspan a * vspan b → Calls Tryd.prog 15 #[.agg #[.slice ao 2 cap, .slice ro rn rc], .int .i64 c] w' fun e w2 => ∃ vo vc, e = .returned (.tuple #[.slice vo (nextL ⟨[a, b], rules⟩ c).length vc, .int .i64 0]) ∧ Below w'.heap.size w' w2 ∧ w2.ownsRow w'.heap.size 3 1 (.slice vo (nextL ⟨[a, b], rules⟩ c).length vc) (nextL ⟨[a, b], rules⟩ c).length (ivals (nextL ⟨[a, b], rules⟩ c))) := fun w' hb c hc => by
    have hw0 := gwcode hG (by omega) g3 hc
    have h := next_own _ _ ⟨[a, b], rules⟩ c w' (hk w' hb).1.1 (hk w' hb).1.2.1 (g1.below hb) hm
    have hnl : nxtL ⟨[a, b], rules⟩ c = nextL ⟨[a, b], rules⟩ c := by unfold nxtL; rw [if_pos hw0]
    rw [hw0, hnl] at h
    refine h.mono fun e w2 ⟨v, h1, h2, h3⟩ => ?_
    obtain ⟨vo, vc, rfl⟩ := owns_slice h3
    exact ⟨vo, vc, h1, h2, h3⟩
  generalize nextL ⟨[a, b], rules⟩ = nx at *
  generalize firstC ⟨[a, b], rules⟩ = first at *
  generalize reachL ⟨[a, b], rules⟩ = l at *
  generalize vspan a * vspan b = N at *
  obtain ⟨i0, hi, hz0, hz1, hz2⟩ := info_parts infoInt
  have hl16 := HCl.out.len
  have hh0 := fun w' v (h : IntsV w' v l) => has_any v l first w' (by omega) h
  rw [decide_eq_true HCl.out.fst] at hh0
  have hre2 := hre W2 (Below.refl _ _)
  clear hk hbW hM hb1 hmd hG z0 z1 g1 g2 g3 hm hre
  have hnot : ∀ (x : Bool) (w : World), (Op.unary .not (.bool x)).run Tryd.prog w = .ok (.bool (!x)) w := fun _ _ => rfl
  go_wp2_with (first | (go_at_call 12; refine hre2.mono ?_; rintro e w3 ⟨v3, rfl, hb3, hI3⟩; obtain ⟨lo, lc, rfl⟩ := hI3.shape; obtain ⟨k30, k31⟩ := HK.out w3 hb3; have hfi3 := hfi w3 hb3) | (go_at_call 13; refine hfi3.mono ?_; rintro e w4 ⟨rfl, hb4⟩; have hh4 := hh0 w4 _ (hI3.below hb4)) | (go_at_call 14; refine hh4.mono ?_; rintro e w5 ⟨rfl, hb5⟩))
  have hb24 := hb3.trans (hb4.mono hb3.size)
  have hb25 := hb24.trans (hb5.mono hb24.size)
  have HI5 : Hid (IntsV w5 (.slice lo l.length lc) l) := (hI3.below hb4).below hb5
  have HB5 : Hid (Below W2.heap.size W2 w5) := hb25
  obtain ⟨ln, hln⟩ : ∃ ln, ln = l.length := ⟨_, rfl⟩
  have HLN : Hid (ln = l.length) := hln
  rw [← hln] at HI5 hl16 ⊢
  clear hb3 hb4 hb5 hI3 hh0 hh4 hfi hfi3 hre2 hb24 hb25 k30 k31 z3 z4 hln
  go_loopw [8, 9] (fun bh i wr => ∃ k : Nat, k ≤ ln ∧ i = .int .i64 k ∧ Hid (wr.ownsRow w5.heap.size 3 1 bh (behTo nx l k).length (ivals (behTo nx l k))) ∧ Hid (Below w5.heap.size w5 wr)) (fun _ i _ => ln - (intOf i).toNat)
  case atStart => exact ⟨0, Nat.zero_le _, rfl, World.ownsRow_nil _ _ _ _, Below.refl _ _⟩
  case round =>
    obtain ⟨k, hk, rfl, HOk, HBk0⟩ := hrel
    have hb2r := HB5.out.trans (HBk0.out.mono HB5.out.size)
    have hIr := HI5.out.below HBk0.out
    obtain ⟨bo, bc, rfl⟩ := owns_slice HOk.out
    by_cases hlt : k < ln
    · have hk' : k < l.length := by rw [← HLN.out]; exact hlt
      obtain ⟨lb, loff, rfl, hlb, hcx⟩ := hIr.at (i := k) hk'
      obtain ⟨hx0, hx1⟩ := HCl.out.inn k hk'
      have hne := HNx.out wr.drew hb2r.drew (l.getD k 0) ⟨hx0, hx1⟩
      have HNy : Hid (∀ y ∈ nx (l.getD k 0), y ∈ l) := HCl.out.next k hk'
      have hny6 := HCl.out.nlen k hk'
      have HBk : Hid ((behTo nx l k).length ≤ 96) := HCl.out.blen k (by omega)
      have HSu : Hid (behTo nx l (k + 1) = behTo nx l k ++ nx (l.getD k 0)) := behTo_succ hk'
      have HUp : Hid (∀ j, k = j + 1 → l.getD j 0 < l.getD k 0) := fun j hj => by subst hj; exact HCl.out.up j hk'
      have hS : ∀ w', Below wr.heap.size wr w' → w'.cell? ⟨w1.heap.size, 0, none⟩ = some (.slice ao 2 cap) ∧ w'.cell? ⟨w1.heap.size, 1, none⟩ = some (.slice ro rn rc) ∧ w'.cell? ⟨lb, loff + k, none⟩ = some (.int .i64 (l.getD k 0)) := fun w' hb => by
        obtain ⟨e0, e1⟩ := HK.out w' (hb2r.trans (hb.mono hb2r.size))
        exact ⟨e0, e1, (hb.cell (p := ⟨lb, loff + k, none⟩) hlb).trans hcx⟩
      obtain ⟨x, hxe⟩ : ∃ x, l.getD k 0 = x := ⟨_, rfl⟩
      rw [hxe] at hcx hx0 hx1 hne HNy hny6 HSu hS
      obtain ⟨ny, hny⟩ : ∃ ny, nx x = ny := ⟨_, rfl⟩
      rw [hny] at hne HNy hny6 HSu
      obtain ⟨nn, hnn⟩ : ∃ nn, nn = ny.length := ⟨_, rfl⟩
      have HNN : Hid (nn = ny.length) := hnn
      rw [← hnn] at hne hny6
      have HXE : Hid (l.getD k 0 = x) := hxe
      clear hxe hny hnn
      go_wp2_with fail
      go_region_held3 (fun w' => w'.cell? ⟨w1.heap.size, 0, none⟩ = some (.slice ao 2 cap) ∧ w'.cell? ⟨w1.heap.size, 1, none⟩ = some (.slice ro rn rc) ∧ w'.cell? ⟨lb, loff + k, none⟩ = some (.int .i64 x)) (exact hS _ (by first | exact (Below.refl _ _).drew | exact Below.refl _ _ | exact undrewK hb6)) ((go_at_call 15; refine hne.mono ?_; rintro e w6 ⟨vo, vc, rfl, hb6, ho6⟩))
      have hb6' := undrewK hb6
      obtain ⟨_, _, hcx6⟩ := hS w6 hb6'
      have HB6 : Hid (Below w5.heap.size w5 w6) := HBk0.out.trans (hb6'.mono HBk0.out.size)
      have hIl6 := HI5.out.below HB6.out
      have hszr := HBk0.out.size
      have HO6 : Hid (BIn w6 w5.heap.size (.slice bo (behTo nx l k).length bc) (behTo nx l k ++ ny.take 0) wr.heap.size w6.heap.size (.slice vo nn vc) ny) := by
        refine ⟨?_, fun z hz => .inl (HOk.out.lt z hz).2, by rw [← HNN.out]; exact ho6, fun z hz => (ho6.lt z hz).2, Nat.le_refl _⟩
        rw [List.take_zero, List.append_nil]
        exact owns_later HOk.out hb6' (Nat.le_refl _)
      generalize wr.heap.size = bs at *
      generalize behTo nx l k = bk at *
      have HIl6 : Hid (IntsV w6 (.slice (some ⟨lb, loff, none⟩) ln lc) l) := hIl6
      clear hne hb6 hb6' ho6 HOk HBk0 hIr hb2r hcx hS hIl6
      by_cases hk0 : k = 0
      · have n3 : ¬ (0 : Int) < (k : Int) := by omega
        have HK0 : Hid (k = 0) := hk0
        clear hk0
        go_wp2_with fail
        have d3 : decide ((0 : Int) < (k : Int)) = false := decide_eq_false (by have := HK0.out; omega)
        have d4 : decide (0 < k) = false := decide_eq_false (by have := HK0.out; omega)
        go_region
        all_goals go_wp2_with fail
        go_wp2_with fail
        go_loopw [8, 12] (fun bh i wr => ∃ q : Nat, q ≤ nn ∧ i = .int .i64 q ∧ Hid (BIn wr w5.heap.size bh (bk ++ ny.take q) bs w6.heap.size (.slice vo nn vc) ny) ∧ Hid (Below w5.heap.size w5 wr)) (fun _ i _ => nn - (intOf i).toNat)
        case atStart => exact ⟨0, Nat.zero_le _, rfl, HO6.out.drew, HB6.out.drew⟩
        case round =>
          obtain ⟨q, hq, rfl, HOq, HBq⟩ := hrel
          obtain ⟨oo, oc, rfl⟩ := owns_slice HOq.out.own
          have hIl := HI5.out.below HBq.out
          by_cases hlq : q < nn
          · have hq' : q < ny.length := by rw [← HNN.out]; exact hlq
            have hIn := intsV_of_owns HOq.out.list
            obtain ⟨nb, noff, rfl, hnb', hcy⟩ := hIn.at (i := q) hq'
            have hym := HNy.out _ (getD_mem hq')
            have hha := has_any (.slice (some ⟨lb, loff, none⟩) ln lc) l (ny.getD q 0) wr (by rw [← HLN.out]; omega) hIl
            rw [decide_eq_true hym] at hha
            have HTk : Hid (bk ++ ny.take (q + 1) = bk ++ ny.take q ++ [ny.getD q 0]) := by
              show _ = _
              rw [List.take_succ_eq_append_getElem hq', List.append_assoc, List.getD_eq_getElem?_getD, List.getElem?_eq_getElem hq']; rfl
            have hlen : (bk ++ ny.take q).length ≤ 200 := by
              rw [List.length_append]
              have := HBk.out
              have h2 : (ny.take q).length ≤ 6 := by rw [List.length_take]; have := HNN.out; omega
              omega
            generalize ny.getD q 0 = y at *
            obtain ⟨Lb, hLb⟩ : ∃ Lb, Lb = (bk ++ ny.take q).length := ⟨_, rfl⟩
            have HLb : Hid (Lb = (bk ++ ny.take q).length) := hLb
            have hown := HOq.out.own
            have hnb := hown.lt
            have HPut : Hid (∀ (w7 w8 : World) (o : Obj) (g c : Nat), Below wr.heap.size wr w7 → (w7.alloc o).grownBy w8 (Value.slice oo Lb oc).ownBlock → w8.ownsRow w5.heap.size 3 1 (.slice (some ⟨g, 0, none⟩) (Lb + 1) c) (Lb + 1) (ivals (bk ++ ny.take q) ++ [.int .i64 y]) → ((Value.slice oo Lb oc).ownBlock = some g ∨ g = (w7.alloc o).heap.size) → BIn w8 w5.heap.size (.slice (some ⟨g, 0, none⟩) (Lb + 1) c) (bk ++ ny.take q ++ [y]) bs w6.heap.size (.slice (some ⟨nb, noff, none⟩) nn vc) ny) := by
              rw [hLb]
              exact fun w7 w8 o g c h1 h2 h3 h4 => HOq.out.put h1 h2 h3 h4
            rw [← hLb] at hown hlen hnb ⊢
            have h63 : Lb + 1 ≤ maxLen := by unfold maxLen; omega
            have hkb : (Lb + 1) * 8 ≤ 140737488355328 := by omega
            have hszr := HBq.out.size
            have HOb : Hid (wr.ownsRow w5.heap.size 3 1 (.slice oo Lb oc) Lb (ivals (bk ++ ny.take q))) := hown
            clear hLb hIl hIn HOq hym hq' hown
            go_wp2_with (first | (go_at_call 14; refine hha.mono ?_; rintro e w7 ⟨rfl, hb7⟩; have hown7 := fun o => (owns_later HOb.out hb7 (Nat.le_refl _)).alloc o; have hcy7 := (hb7.cell (p := ⟨nb, noff + q, none⟩) hnb').trans hcy; have hbase : ∀ o, w5.heap.size ≤ (w7.alloc o).heap.size := (fun o => by have := hb7.size; simp; omega)) | (at_builtin; refine wpList_append_lies _ rfl (.tmp 84) (.tmp 89) 46 rfl w5.heap.size 3 i0 (.int .i64 0) 1 8 Tryd.underlying46 hi hz0 hz1 hz2 rfl (by decide) (.slice oo Lb oc) Lb _ rfl (hown7 _) ⟨w7.heap.size, 0, none⟩ 1 1 [.int .i64 y] rfl rfl (cell_one_new _ _ _) (by intro u hu; simp at hu; subst hu; rfl) (by decide) h63 hkb (hbase _) _ rfl ?_; intro g8 c8 w8 hown8 hgrow8 hor8 _))
            have hb8 : Below w5.heap.size w5 w8 := by
              have e1 := HBq.out.trans (hb7.mono hszr)
              exact (e1.alloc e1.size _).grown hgrow8 (hbase _) (fun z hz => (hnb z hz).1)
            have ho8 : Hid (BIn w8 w5.heap.size (.slice (some ⟨g8, 0, none⟩) (Lb + 1) c8) (bk ++ ny.take (q + 1)) bs w6.heap.size (.slice (some ⟨nb, noff, none⟩) nn vc) ny) := by
              show BIn _ _ _ _ _ _ _ _
              rw [HTk.out]
              exact HPut.out w7 w8 _ g8 c8 hb7 hgrow8 hown8 hor8
            go_roundw
            case rel => exact ⟨q + 1, hlq, by go_num, ho8, hb8⟩
            case measure => simp [intOf]; omega
          · obtain rfl : q = nn := by omega
            have HNk : Hid (wr.ownsRow w5.heap.size 3 1 (.slice oo (bk ++ ny.take q).length oc) (behTo nx l (k + 1)).length (ivals (behTo nx l (k + 1)))) := by
              have h1 := HOq.out.own
              have h2 : bk ++ ny.take q = behTo nx l (k + 1) := by rw [List.take_of_length_le (by rw [← HNN.out]; omega), HSu.out]
              rw [h2] at h1 ⊢
              exact h1
            generalize (bk ++ ny.take q).length = Lq at *
            clear HOq hIl
            go_wp2_with fail
            go_roundw
            case rel => exact ⟨k + 1, hlt, by go_num, HNk, HBq⟩
            case measure => simp [intOf]; omega
      · obtain ⟨j, rfl⟩ : ∃ j, k = j + 1 := ⟨k - 1, by omega⟩
        obtain ⟨lb2, loff2, e2, _, hcd⟩ := HIl6.out.at (i := j) (by rw [← HLN.out]; omega)
        obtain ⟨rfl, rfl⟩ : lb = lb2 ∧ loff = loff2 := by injection e2 with e2; injection e2 with h1 h2 h3; exact ⟨h1, h2⟩
        have hup := HUp.out j rfl
        rw [HXE.out] at hup
        generalize l.getD j 0 = y at hcd hup
        clear e2
        go_wp2_with fail
        have n2 : ¬ x ≤ y := by omega
        have j0 : (0 : Int) ≤ (j : Int) + 1 := by omega
        have j1 : (0 : Int) < (j : Int) + 1 := by omega
        have j2 : (j : Int) + 1 - 1 = j := by omega
        have j3 : (j : Int) + 1 < ln := by omega
        have j4 : (0 : Int) ≤ (j : Int) := by omega
        have j5 : (j : Int) < (ln : Int) := by omega
        have j7 : j < ln := by omega
        have j8 : IntKind.i64.wrap (j : Int) = j := wr64 (by omega) (by omega)
        have j6 : IntKind.i64.wrap ((j : Int) + 1 - 1) = j := by rw [j2]; exact wr64 (by omega) (by omega)
        have d2 : decide (x ≤ y) = false := decide_eq_false n2
        have d3 : decide ((0 : Int) < (j : Int) + 1) = true := decide_eq_true j1
        go_region_held3 (fun w' => w'.cell? ⟨lb, loff + j, none⟩ = some (.int .i64 y) ∧ w'.cell? ⟨lb, loff + (j + 1), none⟩ = some (.int .i64 x)) (exact ⟨hcd, hcx6⟩) (fail)
        all_goals go_wp2_with fail
        clear n2 j0 j1 j2 j3 j4 j5 j7 j8 j6 d2 d3 hcd hup
        go_wp2_with fail
        go_loopw [8, 12] (fun bh i wr => ∃ q : Nat, q ≤ nn ∧ i = .int .i64 q ∧ Hid (BIn wr w5.heap.size bh (bk ++ ny.take q) bs w6.heap.size (.slice vo nn vc) ny) ∧ Hid (Below w5.heap.size w5 wr)) (fun _ i _ => nn - (intOf i).toNat)
        case atStart => exact ⟨0, Nat.zero_le _, rfl, HO6.out.drew, HB6.out.drew⟩
        case round =>
          obtain ⟨q, hq, rfl, HOq, HBq⟩ := hrel
          obtain ⟨oo, oc, rfl⟩ := owns_slice HOq.out.own
          have hIl := HI5.out.below HBq.out
          by_cases hlq : q < nn
          · have hq' : q < ny.length := by rw [← HNN.out]; exact hlq
            have hIn := intsV_of_owns HOq.out.list
            obtain ⟨nb, noff, rfl, hnb', hcy⟩ := hIn.at (i := q) hq'
            have hym := HNy.out _ (getD_mem hq')
            have hha := has_any (.slice (some ⟨lb, loff, none⟩) ln lc) l (ny.getD q 0) wr (by rw [← HLN.out]; omega) hIl
            rw [decide_eq_true hym] at hha
            have HTk : Hid (bk ++ ny.take (q + 1) = bk ++ ny.take q ++ [ny.getD q 0]) := by
              show _ = _
              rw [List.take_succ_eq_append_getElem hq', List.append_assoc, List.getD_eq_getElem?_getD, List.getElem?_eq_getElem hq']; rfl
            have hlen : (bk ++ ny.take q).length ≤ 200 := by
              rw [List.length_append]
              have := HBk.out
              have h2 : (ny.take q).length ≤ 6 := by rw [List.length_take]; have := HNN.out; omega
              omega
            generalize ny.getD q 0 = y at *
            obtain ⟨Lb, hLb⟩ : ∃ Lb, Lb = (bk ++ ny.take q).length := ⟨_, rfl⟩
            have HLb : Hid (Lb = (bk ++ ny.take q).length) := hLb
            have hown := HOq.out.own
            have hnb := hown.lt
            have HPut : Hid (∀ (w7 w8 : World) (o : Obj) (g c : Nat), Below wr.heap.size wr w7 → (w7.alloc o).grownBy w8 (Value.slice oo Lb oc).ownBlock → w8.ownsRow w5.heap.size 3 1 (.slice (some ⟨g, 0, none⟩) (Lb + 1) c) (Lb + 1) (ivals (bk ++ ny.take q) ++ [.int .i64 y]) → ((Value.slice oo Lb oc).ownBlock = some g ∨ g = (w7.alloc o).heap.size) → BIn w8 w5.heap.size (.slice (some ⟨g, 0, none⟩) (Lb + 1) c) (bk ++ ny.take q ++ [y]) bs w6.heap.size (.slice (some ⟨nb, noff, none⟩) nn vc) ny) := by
              rw [hLb]
              exact fun w7 w8 o g c h1 h2 h3 h4 => HOq.out.put h1 h2 h3 h4
            rw [← hLb] at hown hlen hnb ⊢
            have h63 : Lb + 1 ≤ maxLen := by unfold maxLen; omega
            have hkb : (Lb + 1) * 8 ≤ 140737488355328 := by omega
            have hszr := HBq.out.size
            have HOb : Hid (wr.ownsRow w5.heap.size 3 1 (.slice oo Lb oc) Lb (ivals (bk ++ ny.take q))) := hown
            clear hLb hIl hIn HOq hym hq' hown
            go_wp2_with (first | (go_at_call 14; refine hha.mono ?_; rintro e w7 ⟨rfl, hb7⟩; have hown7 := fun o => (owns_later HOb.out hb7 (Nat.le_refl _)).alloc o; have hcy7 := (hb7.cell (p := ⟨nb, noff + q, none⟩) hnb').trans hcy; have hbase : ∀ o, w5.heap.size ≤ (w7.alloc o).heap.size := (fun o => by have := hb7.size; simp; omega)) | (at_builtin; refine wpList_append_lies _ rfl (.tmp 84) (.tmp 89) 46 rfl w5.heap.size 3 i0 (.int .i64 0) 1 8 Tryd.underlying46 hi hz0 hz1 hz2 rfl (by decide) (.slice oo Lb oc) Lb _ rfl (hown7 _) ⟨w7.heap.size, 0, none⟩ 1 1 [.int .i64 y] rfl rfl (cell_one_new _ _ _) (by intro u hu; simp at hu; subst hu; rfl) (by decide) h63 hkb (hbase _) _ rfl ?_; intro g8 c8 w8 hown8 hgrow8 hor8 _))
            have hb8 : Below w5.heap.size w5 w8 := by
              have e1 := HBq.out.trans (hb7.mono hszr)
              exact (e1.alloc e1.size _).grown hgrow8 (hbase _) (fun z hz => (hnb z hz).1)
            have ho8 : Hid (BIn w8 w5.heap.size (.slice (some ⟨g8, 0, none⟩) (Lb + 1) c8) (bk ++ ny.take (q + 1)) bs w6.heap.size (.slice (some ⟨nb, noff, none⟩) nn vc) ny) := by
              show BIn _ _ _ _ _ _ _ _
              rw [HTk.out]
              exact HPut.out w7 w8 _ g8 c8 hb7 hgrow8 hown8 hor8
            go_roundw
            case rel => exact ⟨q + 1, hlq, by go_num, ho8, hb8⟩
            case measure => simp [intOf]; omega
          · obtain rfl : q = nn := by omega
            have HNk : Hid (wr.ownsRow w5.heap.size 3 1 (.slice oo (bk ++ ny.take q).length oc) (behTo nx l ((j + 1) + 1)).length (ivals (behTo nx l ((j + 1) + 1)))) := by
              have h1 := HOq.out.own
              have h2 : bk ++ ny.take q = behTo nx l ((j + 1) + 1) := by rw [List.take_of_length_le (by rw [← HNN.out]; omega), HSu.out]
              rw [h2] at h1 ⊢
              exact h1
            generalize (bk ++ ny.take q).length = Lq at *
            clear HOq hIl
            go_wp2_with fail
            go_roundw
            case rel => exact ⟨(j + 1) + 1, hlt, by go_num, HNk, HBq⟩
            case measure => simp [intOf]; omega
    · obtain rfl : k = ln := by omega
      have HOl : Hid (wr.ownsRow w5.heap.size 3 1 (.slice bo (behTo nx l k).length bc) (behTo nx l k).length (ivals (behTo nx l k))) := HOk.out
      have HIb : Hid (IntsV wr (.slice bo (behTo nx l k).length bc) (behTo nx l k)) := intsV_of_owns HOk.out
      have HIl : Hid (IntsV wr (.slice lo k lc) l) := hIr
      have HPre : Hid (∀ i, i < k → l.getD i 0 ≠ first → l.getD i 0 ∈ behTo nx l k) := fun i hi hne => by
        have := HCl.out.pre i (by rw [← HLN.out]; exact hi) hne
        rwa [← HLN.out] at this
      have HBl : Hid ((behTo nx l k).length ≤ 96) := HCl.out.blen k (by rw [HLN.out]; omega)
      have hbW := HBW.out.trans (hb2r.mono HBW.out.size)
      generalize behTo nx l k = BH at *
      obtain ⟨bn, hbn⟩ : ∃ bn, bn = BH.length := ⟨_, rfl⟩
      have HBN : Hid (bn = BH.length) := hbn
      rw [← hbn] at HIb ⊢
      generalize wr = wo at *
      clear HOk HBk0 hIr hbn HOl hb2r
      go_wp2_with fail
      go_loopw [13] (fun i wr => ∃ q : Nat, q ≤ k ∧ i = .int .i64 q ∧ Hid (Below wo.heap.size wo wr)) (fun i _ => k - (intOf i).toNat)
      case atStart => exact ⟨0, Nat.zero_le _, rfl, Below.refl _ _⟩
      case round =>
        obtain ⟨q, hq, rfl, HBq⟩ := hrel
        by_cases hlq : q < k
        · have hIl := HIl.out.below HBq.out
          obtain ⟨lb, loff, rfl, hlb, hcx⟩ := hIl.at (i := q) (by rw [← HLN.out]; exact hlq)
          by_cases hxf : l.getD q 0 = first
          · rw [hxf] at hcx
            clear hIl hxf
            go_wp2_with fail
            go_roundw
            case rel => exact ⟨q + 1, hlq, by go_num, HBq⟩
            case measure => simp [intOf]; omega
          · have hha := has_any (.slice bo bn bc) BH (l.getD q 0) wr (by have := HBl.out; omega) (HIb.out.below HBq.out)
            rw [decide_eq_true (HPre.out q hlq hxf)] at hha
            generalize l.getD q 0 = x at *
            have HBt : Hid (∀ w7, Below wr.heap.size wr w7 → Below wo.heap.size wo w7) := fun w7 hb => HBq.out.trans (hb.mono HBq.out.size)
            clear hIl
            go_wp2_with (go_at_call 14; refine hha.mono ?_; rintro e w7 ⟨rfl, hb7⟩)
            go_roundw
            case rel => exact ⟨q + 1, hlq, by go_num, HBt.out w7 hb7⟩
            case measure => simp [intOf]; omega
        · obtain rfl : q = k := by omega
          go_wp2_with fail
          go_ret
          exact ⟨rfl, hbW.trans (HBq.out.mono hbW.size)⟩

set_option maxRecDepth 20000 in
theorem reachClosed_contract (H : Type) (enc : TypeId × Value → H) (W : World) (base : Nat) (args : Array Value) (ds gs : List (DataW H)) (before : List MemPlace)
    (hval : ∀ (j : Nat) t v, Tryd.f4.params[j]? = some t → args[j]? = some v → Value.okWide Tryd.prog W .any base t v)
    (hW : DataW.Whole enc Tryd.prog Tryd.f4.params.toList Rows.reachClosedSpec.vars false W args.toList ds gs before)
    (hsz0 : (DataW.weightsEach Tryd.prog (Tryd.f4.params.toList ++ (OpenSpec.ofChange Rows.reachClosedSpec).bare.plain.varTypes Tryd.prog) (ds ++ gs)).all (· ≤ reachBytes) = true)
    (hL : laidMetH Tryd.prog Rows.reachClosedRow.laid W) :
    Calls Tryd.prog 4 args W fun e W' => ∃ v, e = .returned v ∧ Rows.reachClosedSpec.post enc Tryd.prog Tryd.f4 false true false false W args v W' := by
  have hW' := hW
  obtain ⟨p, q, hA0, hV, rfl, hfz, hnd⟩ := hW
  have hA : DataW.TrodAll enc Tryd.prog W 0 (fun _ => true) true Tryd.f4.params.toList args.toList ds p := hA0
  rw [Tryd.params4] at hA hval
  obtain ⟨v0, vs0, d0, ds0, p0, q0, hargs, rfl, rfl, h0, r0⟩ := trodAll_cons hA
  obtain ⟨rfl, rfl, rfl⟩ := trodAll_nil r0
  obtain rfl : args = #[v0] := by cases args; simp_all
  obtain ⟨rfl, rfl⟩ := trodVars_none hV
  have hsz : (DataW.weightsEach Tryd.prog [25] [d0]).all (· ≤ reachBytes) = true := hsz0
  obtain ⟨vars, hD⟩ := open_design (hval 0 25 v0 rfl rfl) h0 hsz (j := 0) rfl rfl
  obtain ⟨c0, c1, c2, c3, c4, c5, c6, a, b, rfl, hG, hmd⟩ := design_model hD
  have hT := tabAt hL
  refine (reachClosed_walk c0 c1 c2 c3 c4 c5 c6 a b W (tab_size hT) hT hG hmd).mono fun e W' ⟨he, hb⟩ => ⟨_, he, ?_⟩
  refine law_post (fun t ht => ?_) rfl (by kernel_rfl) hW' rfl rfl rfl hb
  rw [Tryd.params4] at ht
  obtain rfl : t = 25 := by simpa using ht
  exact ⟨by kernel_rfl, of_decide_eq_true (by kernel_rfl)⟩

/-- A WORLD FOR THE WITNESS: the settled one, the table (block 0) holding what its initialiser lays. -/
noncomputable def reachClosedWorld (os : Os) : World :=
  { World.holding Tryd.prog os ⟨#[], #[], []⟩ with heap := (World.holding Tryd.prog os ⟨#[], #[], []⟩).heap.modify 0 fun
      | .cells _ t frozen => .cells #[.int .i64 0, .int .i64 0, .int .i64 0, .int .i64 2, .int .i64 2, .int .i64 2, .int .i64 2, .int .i64 2, .int .i64 2, .int .i64 2, .int .i64 1, .int .i64 0, .int .i64 0, .int .i64 0, .int .i64 1, .int .i64 2, .int .i64 2, .int .i64 1, .int .i64 1] t frozen
      | o => o }
set_option maxRecDepth 20000 in
theorem reachClosed_met (os : Os) : laidMet Tryd.prog Rows.reachClosedRow.laid ((reachClosedWorld os).forCall (fun _ _ => 0) ⟨#[], #[.agg #[.int .i64 0, .int .i64 0, .int .i64 0, .int .i64 0, .int .i64 0, .int .i64 0, .slice none 0 0]], []⟩).memory :=
  laidMet_of_run' 8 (by kernel_rfl) (by kernel_rfl)
set_option maxRecDepth 20000 in
theorem reachClosed_reads (os : Os) {H : Type} (enc : TypeId × Value → H) : ∃ places, DataW.whole enc Tryd.prog ((reachClosedWorld os).forCall (fun _ _ => 0) ⟨#[], #[.agg #[.int .i64 0, .int .i64 0, .int .i64 0, .int .i64 0, .int .i64 0, .int .i64 0, .slice none 0 0]], []⟩).memory Tryd.f4.params.toList Rows.reachClosedSpec.vars false #[Value.agg #[.int .i64 0, .int .i64 0, .int .i64 0, .int .i64 0, .int .i64 0, .int .i64 0, .slice none 0 0]].toList 8 = some ([.agg [.agg [.lit (.int .i64 0), .lit (.int .i64 0)], .agg [.lit (.int .i64 0), .lit (.int .i64 0)], .agg [.lit (.int .i64 0), .lit (.int .i64 0)], .nil]], [], places) :=
  ⟨[], by kernel_rfl⟩

set_option maxRecDepth 100000 in
theorem reachClosed_lifted (os : Os) (started : os.Started) (H : Type) (enc : TypeId × Value → H) (F : Stop.Interp) :
    ReturnsInHanded {} Tryd.checked os 4 .any ((OpenSpec.ofChange Rows.reachClosedSpec).preRow enc Tryd.prog Tryd.f4 Rows.reachClosedRow.domain false Rows.reachClosedRow.laid) (((OpenSpec.ofChange Rows.reachClosedSpec).at F).post enc Tryd.prog Tryd.f4 false true false false) := by
  obtain ⟨places, hx⟩ := reachClosed_reads os enc
  refine returnsInHanded_of_row (C := Tryd.checked) (s := OpenSpec.ofChange Rows.reachClosedSpec) own started (by kernel_rfl) Tryd.func4
    (witness_row_at (enc := enc) (C := Tryd.checked) false (reachClosedWorld os) #[.agg #[.int .i64 0, .int .i64 0, .int .i64 0, .int .i64 0, .int .i64 0, .int .i64 0, .slice none 0 0]] rfl (by kernel_rfl) (by kernel_rfl) (by kernel_rfl)
      (OpenSpec.preRow_of_cond 8 hx (by kernel_rfl) (fun k hk => by cases hk) (by kernel_rfl) (reachClosed_met os))) ?_
  intro W base args ds gs before hval hW _ _ hsz hL _ _
  exact reachClosed_contract H enc W base args ds gs before hval hW hsz hL

set_option maxRecDepth 20000 in
theorem reachClosed_said : Rows.ReachClosedSaid :=
  OpenClaim.holds_of_cond 4 Tryd.f4 rfl rfl rfl rfl rfl rfl rfl ⟨rfl, rfl, rfl, rfl, rfl⟩ rfl rfl rfl rfl rfl (by kernel_rfl) Tryd.func4 (by kernel_rfl)
    (of_decide_eq_true (by kernel_rfl)) (by unfold Func.isWrapper; first | (rw [if_pos (by decide +kernel)]; kernel_rfl) | (rw [if_neg (by decide +kernel)]; exact ⟨rfl, rfl⟩))
    (fun os started H enc _ F => by rw [OpenClaim.pre_eq_preRow]; exact reachClosed_lifted os started H enc F)

set_option maxRecDepth 20000 in
theorem reachClosed_plain (f : FuncId) (fn : Func) (hf : Tryd.pinned.checked.prog.funcNamed "foretell/foretellkeep.ReachClosed" = some f) (hfn : Tryd.pinned.checked.prog.funcs[f]? = some fn) :
    true = Tryd.pinned.checked.prog.looks [] ∧ ∀ (j : Nat) t, fn.params[j]? = some t → Tryd.pinned.checked.prog.wantsStandIn t = false := by
  obtain rfl : f = 4 := Option.some.inj ((show Tryd.prog.funcNamed "foretell/foretellkeep.ReachClosed" = some 4 by kernel_rfl).symm.trans hf) |>.symm
  obtain rfl : fn = Tryd.f4 := (Option.some.inj (Tryd.func4.symm.trans hfn)).symm
  refine ⟨by kernel_rfl, fun j t ht => ?_⟩
  rw [Tryd.params4] at ht
  have ht' := Array.mem_of_getElem? ht
  simp only [List.mem_toArray, List.mem_cons, List.not_mem_nil, or_false] at ht'
  subst ht'
  exact (show Tryd.prog.wantsStandIn 25 = false by kernel_rfl)

set_option maxRecDepth 20000 in
/-- THE CARD. -/
theorem reachClosed_card : Rows.ReachClosedCardSaid :=
  Claim7.holds_tied_plain_at .later [] _ _ _ _ reachClosed_said (fun _ h => by cases h) (by kernel_rfl) (fun _ h => by cases h) reachClosed_row_tie rfl ⟨rfl, rfl⟩ (by kernel_rfl) rfl reachClosed_plain (by kernel_rfl)
#print axioms reachClosed_card
end Go.Proofs.YtflmefohofocaaaDoor
