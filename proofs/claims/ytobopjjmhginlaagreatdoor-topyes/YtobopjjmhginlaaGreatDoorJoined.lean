import Derived.Test.YtobopjjmhginlaaGreatDoorMem
namespace Go.Proofs.YtobopjjmhginlaaGreatDoor
open Go.ChangeShapes Go.WideShapes Go.ChangeAt Go.RowKit Go.Deep
open Terms
set_option maxHeartbeats 6400000
set_option maxRecDepth 20000
theorem take_flat {ts : List (List (Int × Int))} {i : Nat} (hi : i < ts.length) : (ts.take (i + 1)).flatten = (ts.take i).flatten ++ ts.getD i [] := by
  rw [List.take_succ_eq_append_getElem hi, List.flatten_append]; simp [List.getD_eq_getElem?_getD, hi]
theorem joined_any (kind : Int) (v : Value) (ts : List (List (Int × Int))) (w : World) (hn : ts.length <= 10) (hl : ∀ i, i <= ts.length -> (ts.take i).flatten.length <= 200) (hne : ∀ i, i < ts.length -> ts.getD i [] ≠ []) (hV : TermsV w v ts) :
    Calls Tryz.prog 15 #[.int .i64 kind, v] w fun e w' => ∃ v', e = .returned v' /\ Below w.heap.size w w' /\ w'.ownsRow w.heap.size 29 2 v' ((kind, 0) :: ts.flatten).length (flat ((kind, 0) :: ts.flatten)) := by
  obtain ⟨i0, hi, hz0, hz1, hz2⟩ := info_parts infoOp; obtain ⟨va, vc, rfl, hat⟩ := hV; obtain ⟨n, hnn⟩ : ∃ n, n = ts.length := ⟨_, rfl⟩
  have HN : Hid (n = ts.length) := hnn; have HL := (show Hid _ from hl)
  have HNE := (show Hid _ from hne)
  have HA := (show Hid _ from hat)
  rw [<- hnn] at hn ⊢; clear hl hne hat hnn
  go_enter Tryz.func15, Tryz.ntmps15
  go_wp2_with fail
  go_loopw [5, 6] (fun out c wr => ∃ i : Nat, i <= n /\ c = .int .i64 i /\ wr.ownsRow w.heap.size 29 2 out ((ts.take i).flatten.length + 1) (flat ((kind, 0) :: (ts.take i).flatten)) /\ Below w.heap.size w wr) (fun _ c _ => n - (intOf c).toNat)
  case atStart => exact ⟨0, Nat.zero_le _, rfl, World.ownsRow_lit w #[.int .i64 kind, .int .i64 0] 1 (Nat.le_refl _) (by unfold maxLen; omega) rfl, (Below.refl _ _).alloc (Nat.le_refl _) _⟩
  case round =>
    obtain ⟨i, hile, rfl, hown, hbel⟩ := hrel
    by_cases hlt : i < n
    · have hlt' : i < ts.length := by rw [<- HN.out]; exact hlt
      obtain ⟨b, off, rfl, hbl, hcs⟩ := HA.out (by intro h; rw [h] at hlt'; simp at hlt')
      obtain ⟨u, hu, hou⟩ := hcs i hlt'; have hcu := (hbel.cell (p := ⟨b, off + i, none⟩) hbl).trans hu; obtain ⟨ua, uc, hus, _, huat⟩ := hou.below hbel; obtain ⟨ub, uoff, rfl, hubl, huat⟩ := huat (HNE.out i hlt'); have HS : Hid ((ts.take (i + 1)).flatten = (ts.take i).flatten ++ ts.getD i []) := take_flat hlt'; have hl1 := HL.out (i + 1) (by omega)
      rw [HS.out, List.length_append] at hl1; have HC : Hid (∀ j x, (flat (ts.getD i []))[j]? = some x -> wr.cell? ((⟨ub, uoff, none⟩ : Addr).add j) = some x) := huat.cells
      obtain ⟨m, hm⟩ : ∃ m, m = (ts.getD i []).length := ⟨_, rfl⟩
      have HM : Hid (m = (ts.getD i []).length) := hm; rw [<- hm] at hus hl1; subst hus; obtain ⟨q, hq⟩ : ∃ q, q = (ts.take i).flatten.length := ⟨_, rfl⟩
      have HQ : Hid (q = (ts.take i).flatten.length) := hq; rw [<- hq] at hown hl1; clear hou hu hcs huat hm hq hlt'; generalize ts.getD i [] = tt at HC HM HS
      go_wp2_with (at_builtin; refine wpList_append_own _ rfl (.tmp 16) (.tmp 20) 30 rfl w.heap.size 29 i0 (.agg #[.int .i64 0, .int .i64 0]) 2 16 Tryz.underlying30 hi hz0 hz1 hz2 rfl (by decide) _ _ _ rfl hown ⟨ub, uoff, none⟩ m uc (flat tt) rfl ?c0 HC.out (flat_one _) ?c3 ?c4 ?c5 ?_)
      case c0 => rw [flat_length, HM.out]
      case c3 => unfold maxLen; omega
      case c4 => omega
      case c5 => exact hbel.size
      intro v' w4 hown' hgrow _; have hb4 : Below w.heap.size w w4 := hbel.grown hgrow hbel.size (fun k hk => (hown.lt k hk).1)
      have ho4 : w4.ownsRow w.heap.size 29 2 v' ((ts.take (i + 1)).flatten.length + 1) (flat ((kind, 0) :: (ts.take (i + 1)).flatten)) := by
        have e1 : (ts.take (i + 1)).flatten.length + 1 = q + 1 + m := by rw [HS.out, List.length_append, <- HQ.out, <- HM.out]; omega
        have e2 : flat ((kind, 0) :: (ts.take (i + 1)).flatten) = flat ((kind, 0) :: (ts.take i).flatten) ++ flat tt := by rw [HS.out, <- flat_append]; rfl
        rw [e1, e2]; exact hown'
      clear hown' hgrow hown
      go_wp2
      go_roundw
      case rel => exact ⟨i + 1, by omega, by go_num, ho4, hb4⟩
      case measure => simp [intOf]; omega
    · have hin : i = n := by omega
      subst hin; rw [show ts.take i = ts by rw [HN.out, List.take_length]] at hown
      clear hlt hile
      go_wp2_with fail
      go_ret
      exact ⟨_, rfl, hbel, hown⟩
end Go.Proofs.YtobopjjmhginlaaGreatDoor
