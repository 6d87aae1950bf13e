import Derived.Test.YtobopjjmhginlaaGreatDoorPPl0
import Derived.Deep.Cut
import Derived.Deep.CutBlock
import Derived.Deep.CutRange
import Derived.Deep.DeepCutAuto
namespace Go.Proofs.YtobopjjmhginlaaGreatDoor
open Go.ChangeShapes Go.WideShapes Go.ChangeAt Go.RowKit Go.Deep Go.Maps
open Terms Tm
set_option maxHeartbeats 6400000
set_option maxRecDepth 20000
def PlPost (w : World) (base A lm : Nat) (S : List (Int × Int)) (N : List (List Int)) (T : List Int) (init many : Int) (sv nv tv : Value) (l : List (Int × Int)) (e : Ending) (w' : World) : Prop :=
  e = .returned (.slice (some ⟨w.heap.size, 0, none⟩) l.length l.length) /\ ∃ sv', AtX w' base A lm (plTo S l) N T init many sv' nv tv /\ IntsV w' (.slice (some ⟨w.heap.size, 0, none⟩) l.length l.length) (plIx S l) /\ RowTy w' (.slice (some ⟨w.heap.size, 0, none⟩) l.length l.length) 3 /\ Chg (atZ A lm sv) w w' /\ (sv'.ownBlock = sv.ownBlock \/ ∃ g, sv'.ownBlock = some g /\ w.heap.size <= g)
theorem places_any (w : World) (base A lm : Nat) (S : List (Int × Int)) (N : List (List Int)) (T : List Int) (init many : Int) (sv nv tv : Value) (l : List (Int × Int)) (so : Option Addr) (sc : Nat) (hX : AtX w base A lm S N T init many sv nv tv) (hl : SpV w (.slice so l.length sc) l) (hsep : ∀ a, so = some a -> ¬ atZ A lm sv a.block) (hI : ∀ j, j < l.length -> I64s (l.getD j (0, 0))) (hz : S.length + l.length <= 1000000000) :
    Calls Tryz.prog 26 #[.pointer (some ⟨A, 0, none⟩), .slice so l.length sc] w (PlPost w base A lm S N T init many sv nv tv l) := by
  obtain ⟨n, hn⟩ : ∃ n, l.length = n := ⟨_, rfl⟩
  have HN : Hid (l.length = n) := hn; have HXt : Hid (AtX w base A lm S N T init many sv nv tv) := hX; have HI : Hid (∀ j, j < n -> I64s (l.getD j (0, 0))) := fun j hj => hI j (by omega)
  have HLs : Hid (∀ wr, Chg (atZ A lm sv) w wr -> SpV wr (.slice so n sc) l) := fun wr h => by have := hl.chg h hsep; rw [hn] at this; exact this
  have HSz : Hid (∀ k, (plTo S (l.take k)).length <= S.length + n) := fun k => by
    have := (plTo_length (l.take k) S).2; have h2 : (l.take k).length <= l.length := by rw [List.length_take]; omega
    show _ <= _
    omega
  unfold PlPost; rw [hn]; have hnz : S.length + n <= 1000000000 := by omega
  clear hX hl hsep hI hz hn; have hmk := run_make_row' (P := Tryz.prog) 37 3 (.int .i64 0) 8 Tryz.underlying37 infoInt rfl .i64 .i64 n (by omega) (by omega)
  have HS0 : Hid (∀ W0, W0 = w.alloc (.cells (madeCells #[.int .i64 0] n) 3) -> PlB w W0 base A lm w.heap.size n (plTo S (l.take 0)) (plTo S (l.take 0)) sv sv sv nv tv init many (fun j => .int .i64 (if j < 0 then (((plTo S l).idxOf (l.getD j (0, 0)) : Nat) : Int) else 0))) := fun W0 e => by
    subst e; have hb : Below w.heap.size w (w.alloc (.cells (madeCells #[.int .i64 0] n) 3)) := (Below.refl _ _).alloc (Nat.le_refl _) _; have hx := HXt.out.below hb; exact ⟨hx.box, hx.lies, hx.sp, (World.rowIs_made w (.int .i64 0) n 3).congr (fun j _ => by simp), Chg.of hb, .inl rfl, Nat.le_refl _⟩
  go_enter Tryz.func26, Tryz.ntmps26
  go_wp2_with fail
  go_loopw [15] (fun i wr => ∃ k : Nat, k <= n /\ i = .int .i64 k /\ ∃ svk, Hid (PlB w wr base A lm w.heap.size n (plTo S (l.take k)) (plTo S (l.take k)) sv svk svk nv tv init many (fun j => .int .i64 (if j < k then (((plTo S l).idxOf (l.getD j (0, 0)) : Nat) : Int) else 0)))) (fun i _ => n - (intOf i).toNat)
  case atStart => exact ⟨0, Nat.zero_le _, rfl, sv, HS0.out _ rfl⟩
  case round =>
    obtain ⟨k, hk, rfl, svk, HA⟩ := hrel
    by_cases hlt : k < n
    · have hlt2 : k < l.length := by rw [HN.out]; exact hlt
      obtain ⟨b, off, rfl, hbl, c0, c1⟩ := (HLs.out wr HA.out.chg).get hlt2; have hki : (k : Int) < (n : Int) := by omega
      have hIk := HI.out k hlt; have HT := (show Hid _ from plTo_take (S := S) hlt2)
      have HD := (show Hid _ from plTo_idx (S := S) hlt2)
      have hSz := HSz.out k
      have HRow : Hid (∀ ix : Nat, (plTo S l).idxOf (l.getD k (0, 0)) = ix -> ∀ j : Nat, (if j = k then Value.int .i64 (ix : Nat) else .int .i64 (if j < k then (((plTo S l).idxOf (l.getD j (0, 0)) : Nat) : Int) else 0)) = .int .i64 (if j < k + 1 then (((plTo S l).idxOf (l.getD j (0, 0)) : Nat) : Int) else 0)) := fun ix e j => by
        by_cases h : j = k
        · subst h
          rw [if_pos rfl, if_pos (Nat.lt_succ_self _), e]
        · rw [if_neg h]
          by_cases h1 : j < k
          · rw [if_pos h1, if_pos (by omega)]
          · rw [if_neg h1, if_neg (by omega)]
      generalize hSk : plTo S (l.take k) = Sk at *; generalize hp : l.getD k (0, 0) = p at *; obtain ⟨x, y⟩ := p; simp only at c0 c1
      obtain ⟨vo, vc, rfl⟩ := HA.out.sp.shape; have hal : Below wr.heap.size wr (wr.alloc (.cells #[.int .i64 x, .int .i64 y] 87)) := (Below.refl _ _).alloc (Nat.le_refl _) _
      have HAd : Hid (∀ w2, Below wr.heap.size wr w2 -> PlB w w2 base A lm w.heap.size n Sk Sk sv (.slice vo Sk.length vc) (.slice vo Sk.length vc) nv tv init many (fun j => .int .i64 (if j < k then (((plTo S l).idxOf (l.getD j (0, 0)) : Nat) : Int) else 0))) := fun w2 h => HA.out.below h
      obtain ⟨q0, q1, q2, q3, q4, q5⟩ := atB_cells (HAd.out _ hal).box; have s0 : (wr.alloc (.cells #[.int .i64 x, .int .i64 y] 87)).cell? ⟨wr.heap.size, 0, none⟩ = some (.int .i64 x) := by simp [go_sem]
      have s1 : (wr.alloc (.cells #[.int .i64 x, .int .i64 y] 87)).cell? ⟨wr.heap.size, 1, none⟩ = some (.int .i64 y) := by simp [go_sem]
      have hlk := (HAd.out _ hal.drew).lies.look hIk; unfold spotV at hlk; simp only at hlk
      by_cases hmem : (x, y) ∈ Sk
      · rw [if_pos hmem, decide_eq_true hmem] at hlk
        have HV : Hid (((plTo S l).idxOf (x, y) : Nat) = Sk.idxOf (x, y)) := by show _ = _; rw [HD.out, plOne_in hmem]; have HT2 : Hid (plTo S (l.take (k + 1)) = Sk) := by show _ = _; rw [HT.out, plOne_in hmem]; generalize Sk.idxOf (x, y) = ix at *; generalize hW1 : wr.alloc (.cells #[.int .i64 x, .int .i64 y] 87) = W1 at *
        go_upto_region 5 with fail
        go_cut [8, 9] (fun u8 u9 wx => u8 = .int .i64 (ix : Nat) /\ u9 = .bool true /\ wx = W1.drew)
        case first =>
          go_region_law (fail)
          all_goals go_wp2_with fail
          all_goals go_meet
          all_goals exact ⟨rfl, rfl, rfl⟩
        case rest =>
          obtain ⟨rfl, rfl, rfl⟩ := hcut; have hA6 := HAd.out _ hal.drew; have f0 := hA6.row.cell hlt; have f1 := hA6.row.frozen k; have HA7 := (show Hid _ from hA6.setR k (.int .i64 (ix : Nat)))
          clear hA6 hlk
          go_wp2_with fail
          go_roundw
          case rel =>
            refine ⟨k + 1, by omega, by go_num, .slice vo Sk.length vc, ?_⟩
            rw [HT2.out]; have h8 := HA7.out; exact ⟨h8.box, h8.lies, h8.sp, h8.row.congr (fun j _ => HRow.out ix HV.out j), h8.chg, h8.own, h8.hR⟩
          case measure => simp [intOf]; omega
      · rw [if_neg hmem, decide_eq_false hmem] at hlk
        have HV : Hid (((plTo S l).idxOf (x, y) : Nat) = Sk.length) := by show _ = _; rw [HD.out, plOne_idx hmem]; have HT2 : Hid (plTo S (l.take (k + 1)) = Sk ++ [(x, y)]) := by show _ = _; rw [HT.out, plOne_out hmem]; obtain ⟨w2, hput, hl2, hg2⟩ := (HAd.out _ hal.drew.drew).lies.put hIk hmem (by unfold maxLen; omega)
        have hA2 := (HAd.out _ hal.drew.drew).map hg2 hl2; rw [plOne_out hmem] at hA2; have HA2 : Hid (∀ w3, Below w2.heap.size w2 w3 -> PlB w w3 base A lm w.heap.size n (Sk ++ [(x, y)]) Sk sv (.slice vo Sk.length vc) (.slice vo Sk.length vc) nv tv init many (fun j => .int .i64 (if j < k then (((plTo S l).idxOf (l.getD j (0, 0)) : Nat) : Int) else 0))) := fun w3 h => hA2.below h
        have s2 : w2.cell? ⟨wr.heap.size, 0, none⟩ = some (.int .i64 x) /\ w2.cell? ⟨wr.heap.size, 1, none⟩ = some (.int .i64 y) := by
          have hne : some wr.heap.size ≠ some lm := by
            have := (HAd.out wr (Below.refl _ _)).lies.lt; intro e
            injection e with e
            omega
          have hbk := hg2.block wr.heap.size (World.block_lt_of_cell? _ _ s0) hne; exact ⟨(World.cell?_of_block hbk).trans s0, (World.cell?_of_block hbk).trans s1⟩
        obtain ⟨s20, s21⟩ := s2; unfold spotV at hput; simp only at hput
        clear hl2 hg2 hA2; generalize hW1 : wr.alloc (.cells #[.int .i64 x, .int .i64 y] 87) = W1 at *
        go_upto_region 5 with fail
        go_cut [8, 9] (fun u8 u9 wx => u8 = .int .i64 0 /\ u9 = .bool false /\ wx = W1.drew)
        case first =>
          go_region_law (fail)
          all_goals go_wp2_with fail
          all_goals go_meet
          all_goals exact ⟨rfl, rfl, rfl⟩
        case rest =>
          obtain ⟨rfl, rfl, rfl⟩ := hcut
          go_upto_region 8 with fail
          go_cut [] (fun wx => wx = w2)
          case first =>
            go_region_law (fail)
            all_goals go_wp2_with fail
            all_goals go_meet
            all_goals rfl
          case rest =>
            obtain rfl := hcut; clear hput hlk; obtain ⟨i0, hi, hz0, hz1, hz2⟩ := info_parts infoSpot; have hbA : Below wc.heap.size wc (wc.drew.alloc (.cells #[.int .i64 x, .int .i64 y] 87)) := ((Below.refl _ _).drew).alloc (Nat.le_refl _) _
            have hown9 : World.ownsRow (wc.drew.alloc (.cells #[.int .i64 x, .int .i64 y] 87)) base 87 2 (.slice vo Sk.length vc) Sk.length (flat Sk) := (HA2.out _ hbA).sp; have hbase9 : base <= (wc.drew.alloc (.cells #[.int .i64 x, .int .i64 y] 87)).heap.size := Nat.le_trans HXt.out.base_le (HA2.out _ hbA).chg.size
            have HApp : Hid (∀ g cap w9, World.ownsRow w9 base 87 2 (.slice (some ⟨g, 0, none⟩) (Sk.length + 1) cap) (Sk.length + 1) (flat Sk ++ [.int .i64 x, .int .i64 y]) -> (wc.drew.alloc (.cells #[.int .i64 x, .int .i64 y] 87)).grownBy w9 (Value.slice vo Sk.length vc).ownBlock -> ((Value.slice vo Sk.length vc).ownBlock = some g \/ g = (wc.drew.alloc (.cells #[.int .i64 x, .int .i64 y] 87)).heap.size) -> PlB w w9 base A lm w.heap.size n (Sk ++ [(x, y)]) (Sk ++ [(x, y)]) sv (.slice vo Sk.length vc) (.slice (some ⟨g, 0, none⟩) (Sk.length + 1) cap) nv tv init many (fun j => .int .i64 (if j < k then (((plTo S l).idxOf (l.getD j (0, 0)) : Nat) : Int) else 0))) := fun g cap w9 h1 h2 h3 => by
              refine (HA2.out _ hbA).app h2 ?_ ?_
              · unfold SpO
                rw [flat_append, List.length_append]; exact h1
              · rcases h3 with h | h
                · exact .inl (by rw [h]; rfl)
                · exact .inr ⟨g, rfl, by have := (HA2.out _ hbA).chg.size; omega⟩
            obtain ⟨p0, _, _, _, _, _⟩ := atB_cells (HA2.out wc (Below.refl _ _)).box; have p0' : (wc.drew.alloc (.cells #[.int .i64 x, .int .i64 y] 87)).cell? ⟨A, 0, none⟩ = some (.slice vo Sk.length vc) := (atB_cells (HA2.out _ hbA).box).1
            have hnews : ∀ j u, [Value.int .i64 x, Value.int .i64 y][j]? = some u -> (wc.drew.alloc (.cells #[.int .i64 x, .int .i64 y] 87)).cell? ((⟨wc.heap.size, 0, none⟩ : Addr).add j) = some u := two_new wc.drew _ _ _
            have HSl : Hid (∀ m : Nat, m = Sk.length -> m + 1 <= 1000000001) := fun m e => by show _ <= _; omega
            generalize hWA : wc.drew.alloc (.cells #[.int .i64 x, .int .i64 y] 87) = WA at *; have hsk9 : Sk.length <= 1000000000 := by omega
            go_upto_region 9 with fail
            go_region_law (first
              | (refine step_append_lies _ (by rfl) (.tmp 48) (.tmp 50) 57 (by rfl) base 87 i0 _ 2 16 Tryz.underlying57 hi hz0 hz1 hz2 (by rfl) (by decide) (.slice vo Sk.length vc) Sk.length (flat Sk) (by rfl) hown9 ⟨wc.heap.size, 0, none⟩ 1 1 [.int .i64 x, .int .i64 y] (by rfl) (by rfl) hnews (by intro u hu; simp at hu; rcases hu with rfl | rfl <;> rfl) (by decide) (by unfold maxLen; omega) (by omega) hbase9 _ rfl ?_; intro g9 cap9 w9 hown hgrow hat hlt9; have hA9 := HApp.out g9 cap9 w9 hown hgrow hat; have z0 := (atB_cells hA9.box).1; have zf := atB_free hA9.box 0; have hA10 := hA9.setA; have f0 := hA10.row.cell hlt; have f1 := hA10.row.frozen k; have HA9 := (show Hid _ from hA10.setR k (.int .i64 (Sk.length : Nat))); clear hA9 hA10 hown hgrow hat))
            all_goals go_wp2_with fail
            all_goals go_roundw
            all_goals first
              | (refine ⟨k + 1, by omega, by go_num, .slice (some ⟨g9, 0, none⟩) (Sk.length + 1) cap9, ?_⟩
                 rw [HT2.out]; have h8 := HA9.out
                 exact ⟨h8.box, h8.lies, h8.sp, h8.row.congr (fun j _ => HRow.out _ HV.out j), h8.chg, h8.own, h8.hR⟩)
              | (simp [intOf]; omega)
    · obtain rfl : k = n := by omega
      have HF : Hid (PlB w wr base A lm w.heap.size k (plTo S l) (plTo S l) sv svk svk nv tv init many (fun j => .int .i64 (if j < k then (((plTo S l).idxOf (l.getD j (0, 0)) : Nat) : Int) else 0))) := by
        have := HA.out; rw [List.take_of_length_le (by rw [HN.out]; exact Nat.le_refl _)] at this
        exact this
      clear HA
      go_wp2_with fail
      go_ret
      have h := HF.out; obtain ⟨cs, hcs, _⟩ := id h.row; refine ⟨rfl, svk, HXt.out.put h.chg h.box h.lies h.sp, ⟨some ⟨w.heap.size, 0, none⟩, k, by rw [plIx_len, HN.out], fun _ => ⟨w.heap.size, 0, rfl, h.row.lt, fun i hi => ?_⟩⟩, fun a n c e => ?_, h.chg, h.own⟩
      · rw [plIx_len, HN.out] at hi
        rw [Nat.zero_add, h.row.cell hi, if_pos hi, plIx_at (by rw [HN.out]; exact hi)]
      · injection e with e _ _
        injection e with e
        subst e; exact ⟨cs, (0, 0), hcs⟩
end Go.Proofs.YtobopjjmhginlaaGreatDoor
