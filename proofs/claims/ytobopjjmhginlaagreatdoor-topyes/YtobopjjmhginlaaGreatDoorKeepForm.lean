import Derived.Test.YtobopjjmhginlaaGreatDoorGrownF
import Derived.Test.YtobopjjmhginlaaGreatDoorLogicT
import Derived.Test.YtobopjjmhginlaaGreatDoorWordM
namespace Go.Proofs.YtobopjjmhginlaaGreatDoor
open Terms
set_option maxHeartbeats 6400000
set_option maxRecDepth 20000
structure FOk (m : Nat) (t : List (Int × Int)) (T : Tm) : Prop where
  ops : T.ops = t
  wf : T.Wf
  good : ∀ o, o ∈ t -> lopErr 3 o = 0
  many : (t.filter fun o => lookB o.1).length = m
theorem FOk.not {m : Nat} {t : List (Int × Int)} {T : Tm} (h : FOk m t T) : FOk m ((10, 0) :: t) (.un 10 0 T) := by
  obtain ⟨h1, h2, h3, h4⟩ := h; refine ⟨by simp [Tm.ops, h1], ⟨by decide, by decide, h2⟩, fun o ho => ?_, ?_⟩
  · rcases List.mem_cons.1 ho with rfl | ho
    · rfl
    · exact h3 o ho
  · rw [List.filter_cons, if_neg (by decide)]; exact h4
theorem FOk.tun {m : Nat} {k : Int} {t : List (Int × Int)} {T : Tm} (hk : k = 14 \/ k = 17 \/ k = 18) (h : FOk m t T) : FOk (m + 1) ((k, 0) :: t) (.un k 0 T) := by
  obtain ⟨h1, h2, h3, h4⟩ := h; refine ⟨by simp [Tm.ops, h1], ?_, fun o ho => ?_, ?_⟩
  · rcases hk with rfl | rfl | rfl <;> exact ⟨by decide, by decide, h2⟩
  · rcases List.mem_cons.1 ho with rfl | ho
    · rcases hk with rfl | rfl | rfl <;> rfl
    · exact h3 o ho
  · rw [List.filter_cons, if_pos (by rcases hk with rfl | rfl | rfl <;> decide), List.length_cons, h4]
theorem FOk.bin {m n : Nat} {k : Int} {t s : List (Int × Int)} {T S : Tm} (h8 : 8 <= k) (h9 : k <= 9) (h : FOk m t T) (g : FOk n s S) : FOk (m + n) ((k, 0) :: (t ++ s)) (.bi k 0 T S) := by
  obtain ⟨h1, h2, h3, h4⟩ := h; obtain ⟨g1, g2, g3, g4⟩ := g; have hk : k = 8 \/ k = 9 := by omega
  refine ⟨by simp [Tm.ops, h1, g1], ?_, fun o ho => ?_, ?_⟩
  · rcases hk with rfl | rfl <;> exact ⟨by decide, by decide, h2, g2⟩
  · rcases List.mem_cons.1 ho with rfl | ho
    · rcases hk with rfl | rfl <;> rfl
    · rcases List.mem_append.1 ho with ho | ho
      · exact h3 o ho
      · exact g3 o ho
  · rw [List.filter_cons, if_neg (by rcases hk with rfl | rfl <;> decide), List.filter_append, List.length_append, h4, g4]
theorem FOk.tbi {m n : Nat} {k : Int} {t s : List (Int × Int)} {T S : Tm} (h8 : 15 <= k) (h9 : k <= 16) (h : FOk m t T) (g : FOk n s S) : FOk (m + n + 1) ((k, 0) :: (t ++ s)) (.bi k 0 T S) := by
  obtain ⟨h1, h2, h3, h4⟩ := h; obtain ⟨g1, g2, g3, g4⟩ := g; have hk : k = 15 \/ k = 16 := by omega
  refine ⟨by simp [Tm.ops, h1, g1], ?_, fun o ho => ?_, ?_⟩
  · rcases hk with rfl | rfl <;> exact ⟨by decide, by decide, h2, g2⟩
  · rcases List.mem_cons.1 ho with rfl | ho
    · rcases hk with rfl | rfl <;> rfl
    · rcases List.mem_append.1 ho with ho | ho
      · exact h3 o ho
      · exact g3 o ho
  · rw [List.filter_cons, if_pos (by rcases hk with rfl | rfl <;> decide), List.length_cons, List.filter_append, List.length_append, h4, g4]
theorem FOk.yes : FOk 0 [(11, 0)] (.leaf 11 0) := ⟨rfl, ⟨by decide, by decide⟩, fun o ho => by
  obtain rfl : o = (11, 0) := by simpa using ho
  rfl, by decide⟩
theorem ForT.ok {m : Nat} {t : List (Int × Int)} (h : ForT 3 m t) : ∃ T, FOk m t T := by
  induction h with
  | prop v h0 h1 =>
    refine ⟨.leaf 13 v, rfl, ⟨by decide, by decide⟩, fun o ho => ?_, by rw [List.filter_cons, if_neg (by show ¬ lookB 13 = true; decide)]; rfl⟩
    obtain rfl : o = (13, v) := by simpa using ho
    unfold lopErr; rw [if_neg (by show ¬ (13 : Int) < 8; decide), if_neg (by simp; omega)]
  | not m a _ ih => obtain ⟨T, hT⟩ := ih; exact ⟨_, hT.not⟩
  | bin m n k a b h8 h9 _ _ iha ihb => obtain ⟨A, hA⟩ := iha; obtain ⟨B, hB⟩ := ihb; exact ⟨_, hA.bin h8 h9 hB⟩
  | tun m k a hk _ ih => obtain ⟨T, hT⟩ := ih; exact ⟨_, hT.tun hk⟩
  | tbi m n k a b h8 h9 _ _ iha ihb => obtain ⟨A, hA⟩ := iha; obtain ⟨B, hB⟩ := ihb; exact ⟨_, hA.tbi h8 h9 hB⟩
theorem ForT.ne {props : Int} {m : Nat} {t : List (Int × Int)} (h : ForT props m t) : t ≠ [] := by cases h <;> simp
theorem ahead_count (l : List (Int × Int)) : ∀ n, n <= l.length -> (aheadTo l n).length = ((l.take n).filter fun o => lookB o.1).length := by
  intro n
  induction n with
  | zero => intro _; rfl
  | succ n ih =>
    intro hn; rw [List.take_succ_eq_append_getElem (by omega), List.filter_append, List.length_append, <- ih (by omega)]
    simp only [aheadTo, List.length_append]
    congr 1
    rw [List.getD_eq_getElem?_getD, List.getElem?_eq_getElem (by omega), Option.getD_some, List.filter_cons]
    cases lookB (l[n]).1 <;> simp
theorem FOk.ahead {m : Nat} {t : List (Int × Int)} {T : Tm} (h : FOk m t T) : (aheadL t).length = m := by
  unfold aheadL; rw [ahead_count t t.length (Nat.le_refl _), List.take_length, h.many]
theorem FOk.size {m : Nat} {t : List (Int × Int)} {T : Tm} (h : FOk m t T) : T.size = t.length := by rw [<- Tm.ops_length, h.ops]
theorem FOk.ends {m : Nat} {t : List (Int × Int)} {T : Tm} (h : FOk m t T) (hl : t.length <= 60) : endsCode (t.map Prod.fst) = 0 := by
  have h1 := Tm.one h.wf; rw [h.ops] at h1; unfold endsCode; rw [List.length_map, if_neg (by have := h.size; have := T.size_pos; omega), h1, h.size]
  simp
theorem FOk.code {m : Nat} {t : List (Int × Int)} {T : Tm} (h : FOk m t T) (hl : t.length <= 60) (hm : m <= 6) : lcode 3 t = 0 := by
  rw [lcode_many (by omega) (h.ends hl) (lfirst_none fun j hj => h.good _ (by rw [List.getD_eq_getElem?_getD, List.getElem?_eq_getElem hj, Option.getD_some]; exact List.getElem_mem hj)), h.ahead, if_neg (by omega)]
end Go.Proofs.YtobopjjmhginlaaGreatDoor
