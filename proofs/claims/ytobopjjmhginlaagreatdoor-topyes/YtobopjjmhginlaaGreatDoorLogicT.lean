import Derived.Test.YtobopjjmhginlaaGreatDoorLogicM
namespace Go.Proofs.YtobopjjmhginlaaGreatDoor
open Go.ChangeShapes Go.WideShapes Go.ChangeAt Go.RowKit Go.Deep
open Terms
set_option maxHeartbeats 6400000
set_option maxRecDepth 20000
def sec (l : List (Int × Int)) (p : Nat) : Nat := endAt (l.map Prod.fst) (p + 1)
def bitB (claim : Int) (i : Nat) : Bool := decide (claim / 2 ^ i % 2 = 1)
def mkB (o : Int × Int) (letter : List Bool) (a b : Bool) : Bool :=
  if o.1 = 13 then letter.getD o.2.toNat false else if o.1 = 11 then true else if o.1 = 10 then !a else if o.1 = 8 then a && b else if o.1 = 9 then a || b else false
def truF (l : List (Int × Int)) (letter : List Bool) (claim : Int) : Nat -> Nat -> Bool
  | 0, _ => false
  | f + 1, p => if lookB (l.getD p (0, 0)).1 = true then bitB claim (aheadTo l p).length else mkB (l.getD p (0, 0)) letter (truF l letter claim f (p + 1)) (truF l letter claim f (max (sec l p) (p + 1)))
def tru (l : List (Int × Int)) (letter : List Bool) (claim : Int) (p : Nat) : Bool := truF l letter claim (l.length - p) p
theorem truF_fuel (l : List (Int × Int)) (letter : List Bool) (claim : Int) : ∀ f g p, l.length <= f + p -> l.length <= g + p -> p < l.length -> truF l letter claim f p = truF l letter claim g p := by
  intro f
  induction f with
  | zero => intro g p h _ hp; omega
  | succ f ih =>
    intro g p h1 h2 hp
    cases g with
    | zero => omega
    | succ g =>
      simp only [truF]
      have aux : ∀ q, p < q -> truF l letter claim f q = truF l letter claim g q := by
        intro q hq
        by_cases hql : q < l.length
        · exact ih g q (by omega) (by omega) hql
        · have z : ∀ f q, l.length <= q -> truF l letter claim f q = false := by
            intro f
            induction f with
            | zero => intro q _; rfl
            | succ f ihf =>
              intro q hq; simp only [truF]; rw [show l.getD q (0, 0) = (0, 0) by simp [List.getD_eq_getElem?_getD, hq]]
              simp [lookB, mkB]
          rw [z f q (by omega), z g q (by omega)]
      rw [aux (p + 1) (by omega), aux (max (sec l p) (p + 1)) (by omega)]
theorem tru_look {l : List (Int × Int)} {letter : List Bool} {claim : Int} {p : Nat} (hp : p < l.length) (h : lookB (l.getD p (0, 0)).1 = true) : tru l letter claim p = bitB claim (aheadTo l p).length := by
  unfold tru; obtain ⟨f, hf⟩ : ∃ f, l.length - p = f + 1 := ⟨l.length - p - 1, by omega⟩
  rw [hf]; simp only [truF]; rw [if_pos h]
theorem tru_mk {l : List (Int × Int)} {letter : List Bool} {claim : Int} {p : Nat} (hp : p < l.length) (h : lookB (l.getD p (0, 0)).1 = false) (hs : pn (l.getD p (0, 0)).1 = 2 -> p + 1 < sec l p) : tru l letter claim p = mkB (l.getD p (0, 0)) letter (tru l letter claim (p + 1)) (tru l letter claim (sec l p)) := by
  unfold tru; obtain ⟨f, hf⟩ : ∃ f, l.length - p = f + 1 := ⟨l.length - p - 1, by omega⟩
  rw [hf]
  have z : ∀ f q, l.length <= q -> truF l letter claim f q = false := by
    intro f
    induction f with
    | zero => intro q _; rfl
    | succ f ihf =>
      intro q hq; simp only [truF]; rw [show l.getD q (0, 0) = (0, 0) by simp [List.getD_eq_getElem?_getD, hq]]
      simp [lookB, mkB]
  have aux : ∀ q, p < q -> truF l letter claim f q = truF l letter claim (l.length - q) q := by
    intro q hq
    by_cases hql : q < l.length
    · exact truF_fuel l letter claim f _ q (by omega) (by omega) hql
    · rw [z _ q (by omega), z _ q (by omega)]
  simp only [truF]; rw [if_neg (by rw [h]; decide), aux (p + 1) (by omega)]
  by_cases h2 : pn (l.getD p (0, 0)).1 = 2
  · rw [show max (sec l p) (p + 1) = sec l p by have := hs h2; omega, aux (sec l p) (by have := hs h2; omega)]
  · have hk : (l.getD p (0, 0)).1 ≠ 8 /\ (l.getD p (0, 0)).1 ≠ 9 := by
      constructor <;> intro e <;> rw [e] at h2 <;> exact absurd rfl h2
    simp only [mkB, hk.1, hk.2, if_false]
theorem aheadTo_get (l : List (Int × Int)) : ∀ n i, i < (aheadTo l n).length -> ∃ p : Nat, (aheadTo l n).getD i 0 = p /\ p < n /\ lookB (l.getD p (0, 0)).1 = true /\ (aheadTo l p).length = i := by
  intro n
  induction n with
  | zero => intro i hi; simp [aheadTo] at hi
  | succ n ih =>
    intro i hi
    cases hb : lookB (l.getD n (0, 0)).1 with
    | false =>
      rw [aheadTo_no hb] at hi ⊢; obtain ⟨p, h1, h2, h3, h4⟩ := ih i hi; exact ⟨p, h1, by omega, h3, h4⟩
    | true =>
      rw [aheadTo_yes hb] at hi ⊢
      by_cases hl : i < (aheadTo l n).length
      · obtain ⟨p, h1, h2, h3, h4⟩ := ih i hl
        refine ⟨p, ?_, by omega, h3, h4⟩
        rw [<- h1]; simp [List.getD_eq_getElem?_getD, List.getElem?_append_left hl]
      · have hi' : i = (aheadTo l n).length := by simp at hi; omega
        subst hi'; exact ⟨n, by simp [List.getD_eq_getElem?_getD], by omega, hb, rfl⟩
theorem aheadTo_mono (l : List (Int × Int)) {p n : Nat} (h : p <= n) : (aheadTo l p).length <= (aheadTo l n).length := by
  induction n with
  | zero => obtain rfl : p = 0 := by omega
            exact Nat.le_refl _
  | succ n ih =>
    by_cases hp : p = n + 1
    · subst hp; exact Nat.le_refl _
    · have := ih (by omega)
      simp only [aheadTo, List.length_append]; omega
theorem aheadTo_lt (l : List (Int × Int)) {p n : Nat} (h : p < n) (hb : lookB (l.getD p (0, 0)).1 = true) : (aheadTo l p).length < (aheadTo l n).length := by
  have := aheadTo_mono l (p := p + 1) (n := n) (by omega)
  rw [aheadTo_yes hb] at this; simp at this; omega
theorem part_in {l : List (Int × Int)} (hz : endsCode (l.map Prod.fst) = 0) {p : Nat} (hp : p < l.length) :
    (1 <= pn (l.getD p (0, 0)).1 -> p + 1 < l.length) /\ (pn (l.getD p (0, 0)).1 = 2 -> p + 1 < sec l p /\ sec l p < l.length) := by
  obtain ⟨_, hc⟩ := code_zero hz; obtain ⟨ks, hks⟩ : ∃ ks, ks = l.map Prod.fst := ⟨_, rfl⟩
  have hlen : ks.length = l.length := by rw [hks, List.length_map]
  have hget : ks.getD p 0 = (l.getD p (0, 0)).1 := by rw [hks]; simp [List.getD_eq_getElem?_getD, hp]
  have hsec : sec l p = endAt ks (p + 1) := by unfold sec; rw [<- hks]; rw [<- hks] at hc; rw [<- hget, hsec, <- hlen]; obtain ⟨m, hm, hm1, hml⟩ := cnt_in ks 1 ks.length p hc (by omega)
  have ha := cnt_at (ks := ks) (q := p) (by omega)
  rw [hm] at ha
  split at ha
  · cases hr : cnt (ks.drop (p + 1)) (pn (ks.getD p 0)) with
    | no e => rw [hr] at ha; simp [R.up] at ha
    | ok m2 =>
      rw [hr] at ha; simp only [R.up, R.ok.injEq] at ha; have h2 := cnt_le _ _ _ hr; rw [List.length_drop] at h2; refine ⟨fun h => by omega, fun h => ?_⟩
      rw [h, show (2 : Nat) = 1 + 1 from rfl] at hr
      obtain ⟨a, b, hca, hcb, hab⟩ := cnt_parts hr; have h3 := cnt_le _ _ _ hca; have h4 := cnt_le _ _ _ hcb; rw [endAt_ok hca]; omega
  · simp at ha
end Go.Proofs.YtobopjjmhginlaaGreatDoor
