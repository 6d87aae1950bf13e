/-
  The contracts of the document's own secondAt, truthAt and TruthsOf.
-/
import Derived.Test.YtalbnbcfdpfofaaDoorLogicTr3
import Derived.Test.YtalbnbcfdpfofaaDoorRefAhead
namespace Go.Proofs.YtalbnbcfdpfofaaDoor
open Go.ChangeShapes Go.WideShapes Go.ChangeAt Go.RowKit Go.Deep
open Terms

theorem rsec_any (b off cap p : Nat) (l : List (Int × Int)) (w : World) (h60 : l.length ≤ 60) (hz : endsCode (l.map Prod.fst) = 0) (hp : p < l.length) (h2 : pn (l.getD p (0, 0)).1 = 2) (hat : OpsAt w b off l) :
    Calls Tryd.prog 53 #[.slice (some ⟨b, off, none⟩) l.length cap, .int .i64 (p : Int)] w fun e w' => e = .returned (.int .i64 (sec l p : Int)) ∧ w' = w := by
  obtain ⟨h1, hs⟩ := part_in hz hp
  have hp1 := h1 (by omega)
  obtain ⟨_, hc⟩ := code_zero hz
  rw [List.length_map] at hc
  obtain ⟨m, hm, hm1, hml⟩ := cnt_in (l.map Prod.fst) 1 l.length (p + 1) hc hp1
  have hks : KindsAt w b off (l.map Prod.fst) := fun i hi => by
    rw [List.length_map] at hi
    rw [(hat i hi).1]
    simp [List.getD_eq_getElem?_getD, hi]
  have hen := endOf_any b off l.length cap (p + 1) (l.map Prod.fst) w h60 (by rw [List.length_map]) (by omega) hks
  have hsec : sec l p = p + 1 + m := by unfold sec; exact endAt_ok hm
  rw [hm] at hen
  rw [hsec]
  have hpc : ((p + 1 : Nat) : Int) = (p : Int) + 1 := by omega
  simp only [endOfVal] at hen
  rw [hpc] at hen
  generalize ((p + 1 + m : Nat) : Int) = z at *
  generalize l.length = n at *
  clear hat hks hc hm hs h1 h2 hsec hpc
  go_enter Tryd.func53, Tryd.ntmps53
  go_wp2_with (go_at_call 57; refine hen.mono ?_; rintro e w1 ⟨rfl, rfl⟩)
  go_ret
  exact ⟨rfl, rfl⟩

theorem kind_ok {l : List (Int × Int)} (hz : endsCode (l.map Prod.fst) = 0) {p : Nat} (hp : p < l.length) : 1 ≤ (l.getD p (0, 0)).1 ∧ (l.getD p (0, 0)).1 ≤ 18 := by
  obtain ⟨_, hc⟩ := code_zero hz
  rw [List.length_map] at hc
  obtain ⟨m, hm, _, _⟩ := cnt_in (l.map Prod.fst) 1 l.length p hc hp
  have ha := cnt_at (ks := l.map Prod.fst) (q := p) (by rw [List.length_map]; exact hp)
  rw [hm] at ha
  have hget : (l.map Prod.fst).getD p 0 = (l.getD p (0, 0)).1 := by simp [List.getD_eq_getElem?_getD, hp]
  rw [hget] at ha
  split at ha
  · rename_i hk; simpa [okK] using hk
  · simp at ha

/-- what truthAt stands on. -/
structure TruIn (w : World) (v lv av : Value) (l : List (Int × Int)) (letter : List Bool) : Prop where
  ops : OpsV w v l
  letter : BoolsV w lv letter
  ahead : IntsV w av (aheadL l)
theorem TruIn.below {w w' : World} {v lv av : Value} {l : List (Int × Int)} {letter : List Bool} (h : TruIn w v lv av l letter) (hb : Below w.heap.size w w') : TruIn w' v lv av l letter := ⟨h.ops.below hb, h.letter.below hb, h.ahead.below hb⟩

end Go.Proofs.YtalbnbcfdpfofaaDoor
