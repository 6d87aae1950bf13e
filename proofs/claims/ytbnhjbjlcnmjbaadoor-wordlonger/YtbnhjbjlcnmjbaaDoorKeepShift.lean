/-
  Words without their first letter, as they lie.
-/
import Derived.Test.YtbnhjbjlcnmjbaaDoorKeepHolds2
import Derived.Test.YtbnhjbjlcnmjbaaDoorKeepWord2
import Derived.Test.YtbnhjbjlcnmjbaaDoorWordsShift
namespace Go.Proofs.YtbnhjbjlcnmjbaaDoor
open Go.ChangeShapes Go.WideShapes Go.ChangeAt Go.RowKit Go.Deep
open Terms

theorem tail_getD {α : Type} (l : List α) (d : α) (i : Nat) : l.tail.getD i d = l.getD (i + 1) d := by
  cases l with
  | nil => simp
  | cons x r => simp [List.getD_eq_getElem?_getD]
/-- the letters behind the first one. -/
theorem LettersV.tail {W : World} {b off c : Nat} {ls : List (List Bool)} (h : LettersV W (.slice (some ⟨b, off, none⟩) ls.length c) ls) (h0 : 0 < ls.length) (hc : ls.length ≤ c) : LettersV W (.slice (if c = 1 then some ⟨b, off, none⟩ else some ⟨b, off + 1, none⟩) (ls.length - 1) (c - 1)) ls.tail := by
  obtain ⟨us, ao, cap, hv, h1, h2, h3⟩ := h
  injection hv with e1 e2 e3
  subst e1 e3
  refine ⟨us.tail, (if c = 1 then some ⟨b, off, none⟩ else some ⟨b, off + 1, none⟩), c - 1, by rw [List.length_tail], fun hn => ?_, ⟨by simp [h2.1], fun i hi => ?_⟩, fun hne => ?_⟩
  · by_cases h : c = 1
    · rw [if_pos h] at hn; cases hn
    · rw [if_neg h] at hn; cases hn
  · rw [tail_getD, tail_getD]
    exact h2.2 (i + 1) (by simp at hi; omega)
  · have hl : 1 < ls.length := by
      refine Nat.lt_of_not_le fun hle => hne ?_
      cases ls with
      | nil => rfl
      | cons x r => cases r with
        | nil => rfl
        | cons y r => simp at hle
    obtain ⟨b', off', e, hlt, hat⟩ := h3 (by rintro rfl; simp at h0)
    injection Option.some.inj e with e4 e5
    subst e4 e5
    refine ⟨b, off + 1, by rw [if_neg (by omega)], hlt, fun i hi => ?_⟩
    rw [tail_getD, show off + 1 + i = off + (i + 1) by omega]
    exact hat (i + 1) (by simp at hi; omega)
theorem WOk.tail {ss ll : List (List Bool)} (h : WOk ss ll) : WOk ss.tail ll := ⟨by have := h.stem; simp; omega, h.one, h.loop, fun x hx => h.s3 x (List.mem_of_mem_tail hx), h.l3⟩
theorem shift_tail {ss ll : List (List Bool)} (h : 0 < ss.length) (h1 : 1 ≤ ll.length) : sig (ss.tail ++ ll) ss.tail.length = fun j => sig (ss ++ ll) ss.length (j + 1) := by
  have := sig_tail (ls := ss ++ ll) (s := ss.length) h (by simp; omega)
  rw [← this]
  cases ss with
  | nil => simp at h
  | cons x r => simp
theorem KCtx.other {w W : World} {wb : Nat} {sv lv : Value} {ss ll : List (List Bool)} (k : KCtx w wb sv lv ss ll W) {wb' : Nat} {sv' lv' : Value} {ss' ll' : List (List Bool)} (hl : wb' < W.heap.size) (h0 : W.cell? ⟨wb', 0, none⟩ = some sv') (h1 : W.cell? ⟨wb', 1, none⟩ = some lv') (hs : LettersV W sv' ss') (hl' : LettersV W lv' ll') (ok : WOk ss' ll') : KCtx w wb' sv' lv' ss' ll' W := ⟨k.below, k.pos, k.tab, hl, h0, h1, hs, hl', ok⟩
theorem FOk.one : FOk 0 [(11, 0)] (.leaf 11 0) := FOk.yes
theorem WOk.turn {ss ll : List (List Bool)} (h : WOk ss ll) : WOk [] (ll.tail ++ [ll.getD 0 []]) := by
  have h1 := h.one
  have h5 := h.loop
  refine ⟨by simp, by simp, by simp; omega, fun x hx => by simp at hx, fun x hx => ?_⟩
  rcases List.mem_append.1 hx with h2 | h2
  · exact h.l3 x (List.mem_of_mem_tail h2)
  · obtain rfl : x = ll.getD 0 [] := by simpa using h2
    refine h.l3 _ ?_
    rw [List.getD_eq_getElem?_getD, List.getElem?_eq_getElem (by omega), Option.getD_some]
    exact List.getElem_mem _
theorem shift_turn {ss ll : List (List Bool)} (hs : ss = []) (h1 : 1 ≤ ll.length) : sig (([] : List (List Bool)) ++ (ll.tail ++ [ll.getD 0 []])) ([] : List (List Bool)).length = fun j => sig (ss ++ ll) ss.length (j + 1) := by
  subst hs
  cases ll with
  | nil => simp at h1
  | cons x r => simpa using sig_turn (x := x) (r := r)
theorem LettersV.turn {v0 W : World} {base gB capB : Nat} {us : List Value} {ll : List (List Bool)} (hlu : LetsU v0 us ll) (h1 : 1 ≤ ll.length) (hbW : Below v0.heap.size v0 W) (ho : W.ownsRow base 32 1 (.slice (some ⟨gB, 0, none⟩) ll.length capB) ll.length (us.tail ++ [us.getD 0 nilV])) : LettersV W (.slice (some ⟨gB, 0, none⟩) ll.length capB) (ll.tail ++ [ll.getD 0 []]) := by
  have hlen : (us.tail ++ [us.getD 0 nilV]).length = ll.length := by simp [hlu.1]; omega
  refine lettersV_of_owns (base := base) (us := us.tail ++ [us.getD 0 nilV]) (by rw [hlen]; exact ho) (LetsU.below (w := v0) ?_ hbW)
  refine LetsU.append ⟨by simp [hlu.1], fun i hi => ?_⟩ ⟨rfl, fun i hi => ?_⟩
  · rw [tail_getD, tail_getD]
    exact hlu.2 (i + 1) (by simp at hi; omega)
  · obtain rfl : i = 0 := by simpa using hi
    exact hlu.2 0 (by omega)
end Go.Proofs.YtbnhjbjlcnmjbaaDoor
