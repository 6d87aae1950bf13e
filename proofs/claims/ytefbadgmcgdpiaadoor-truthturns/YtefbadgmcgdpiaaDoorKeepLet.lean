/-
  The contract of the keeping laws' own letter, exact; and what Meets answers of a formula whose first op alone looks ahead.
-/
import Derived.Test.YtefbadgmcgdpiaaDoorKeepForm
import Derived.Test.YtefbadgmcgdpiaaDoorLogicMeet
import Derived.Test.YtefbadgmcgdpiaaDoorKeepEnv
import Derived.Test.YtefbadgmcgdpiaaDoorJoined2
namespace Go.Proofs.YtefbadgmcgdpiaaDoor
open Go.ChangeShapes Go.WideShapes Go.ChangeAt Go.RowKit Go.Deep
open Terms

/-- the letter of a raw number. -/
def letN (n : Int) : List Bool := [pk n 8 % 2 == 1, pk n 8 / 2 % 2 == 1, pk n 8 / 4 == 1]
set_option maxHeartbeats 800000 in
set_option maxRecDepth 20000 in
/-- THE CONTRACT OF letter. -/
theorem letterFn_is (n : Int) (w : World) (hn : I64 n) :
    Calls Tryd.prog 9 #[.int .i64 n] w fun e w' => ∃ g, e = .returned (.slice (some ⟨g, 0, none⟩) 3 3) ∧ Below w.heap.size w w' ∧ BoolsV w' (.slice (some ⟨g, 0, none⟩) 3 3) (letN n) := by
  have hpk := fun w => picked_is n 8 w hn (by decide) (by decide)
  obtain ⟨hr0, hr1⟩ := pk_range (n := n) (m := 8) (by decide)
  unfold letN
  generalize pk n 8 = r at *
  go_enter Tryd.func9, Tryd.ntmps9
  go_wp2_with (go_at_call 7; refine (hpk _).mono ?_; rintro e w1 ⟨rfl, rfl⟩)
  go_ret
  have ho := World.ownsRow_lit (e := 4) (size := 1) w1 #[.bool (r % 2 == 1), .bool (r / 2 % 2 == 1), .bool (r / 4 == 1)] 3 (Nat.le_refl _) (by unfold maxLen; omega) rfl
  exact ⟨_, rfl, (Below.refl _ _).alloc (Nat.le_refl _) _, boolsV_of_owns (l := [r % 2 == 1, r / 2 % 2 == 1, r / 4 == 1]) ho⟩

theorem Raws.up {w w' : World} {v : Value} {rs : List (Int × Int)} (h : Raws w w.heap.size v rs) (hb : Below w.heap.size w w') : Raws w' w'.heap.size v rs := by
  obtain ⟨⟨ao, cap, hv, h1⟩, h2, h3⟩ := h
  refine ⟨⟨ao, cap, hv, fun hne => ?_⟩, h2, h3⟩
  obtain ⟨b, off, ha, hlt, hat⟩ := h1 hne
  exact ⟨b, off, ha, Nat.lt_of_lt_of_le hlt hb.size, hat.below hb hlt⟩
/-- a formula that a law has grown. -/
structure KFor (W : World) (v : Value) (q : Nat) (t : List (Int × Int)) (T : Tm) (m : Nat) : Prop where
  v : OpsV W v t
  ok : FOk m t T
  len : t.length ≤ 17
  ne : t ≠ []
  many : m ≤ q
theorem KFor.later {W W' : World} {v : Value} {q : Nat} {t : List (Int × Int)} {T : Tm} {m : Nat} (k : KFor W v q t T m) (hb : Below W.heap.size W W') : KFor W' v q t T m := ⟨k.v.below hb, k.ok, k.len, k.ne, k.many⟩

theorem met_one {k : Int} {t : List (Int × Int)} {T : Tm} {letter : List Bool} {claim : Int} (hF : FOk 1 ((k, 0) :: t) T) (hk : lookB k = true) (hl : ((k, (0 : Int)) :: t).length ≤ 60) (h3 : letter.length = 3) (hc : claim = 0 ∨ claim = 1) (hw : ∀ x y, waitB k (bitB claim 0) x y = false) : metN ((k, 0) :: t) letter claim = 1 ∧ tcode ((k, 0) :: t) letter claim = 0 := by
  have hz : lcode letter.length ((k, 0) :: t) = 0 := by rw [h3]; exact hF.code hl (by omega)
  have ha := hF.ahead
  have hcn : ¬ ClaimNo ((k, 0) :: t) claim := by
    unfold ClaimNo
    rw [ha]
    rcases hc with rfl | rfl <;> decide
  have htc := tcode_ok hz hcn
  refine ⟨?_, htc⟩
  unfold metN
  rw [if_pos htc, ha]
  obtain ⟨p, h1, h2, h3', h4⟩ := aheadTo_get ((k, 0) :: t) ((k, (0 : Int)) :: t).length 0 (by show 0 < (aheadL ((k, 0) :: t)).length; rw [ha]; decide)
  have hp : p = 0 := by
    refine Classical.byContradiction fun hne => ?_
    have hm := aheadTo_mono ((k, 0) :: t) (p := 1) (n := p) (by omega)
    rw [aheadTo_yes (l := (k, 0) :: t) (n := 0) hk] at hm
    simp at hm
    omega
  subst hp
  have h1' : (aheadL ((k, 0) :: t)).getD 0 0 = ((0 : Nat) : Int) := h1
  have hw0 : waitAt ((k, 0) :: t) (tru ((k, 0) :: t) letter claim) 0 = false := by
    unfold waitAt
    rw [tru_look (l := (k, 0) :: t) (p := 0) (by simp) hk]
    exact hw _ _
  simp only [metTo]
  rw [h1']
  show 0 + (if waitAt ((k, 0) :: t) (tru ((k, 0) :: t) letter claim) 0 = true then 0 else 2 ^ 0) = (1 : Int)
  rw [hw0]
  rfl
end Go.Proofs.YtefbadgmcgdpiaaDoor
