/-
  The contract of word.Claims.
-/
import Derived.Test.YtoeagklgfaoejaaDoorLogicMeet
import Derived.Test.YtoeagklgfaoejaaDoorCodes0
namespace Go.Proofs.YtoeagklgfaoejaaDoor
open Go.ChangeShapes Go.WideShapes Go.ChangeAt Go.RowKit Go.Deep
open Terms

/-- the bits of those that hold at a moment, of the first k of the places a. -/
def clmTo (a : List Int) (h : Nat → Nat → Bool) (j : Nat) : Nat → Int
  | 0 => 0
  | k + 1 => clmTo a h j k + if h (a.getD k 0).toNat j = true then 2 ^ k else 0
theorem clmTo_bounds (a : List Int) (h : Nat → Nat → Bool) (j : Nat) : ∀ k, 0 ≤ clmTo a h j k ∧ clmTo a h j k < 2 ^ k := by
  intro k
  induction k with
  | zero => simp [clmTo]
  | succ k ih =>
    have h2 : (0 : Int) < 2 ^ k := Int.pow_pos (by decide)
    simp only [clmTo]
    rw [Int.pow_succ]
    split <;> omega
theorem clmTo_append (a b : List Int) (h : Nat → Nat → Bool) (j : Nat) : ∀ k, k ≤ a.length → clmTo (a ++ b) h j k = clmTo a h j k := by
  intro k
  induction k with
  | zero => intro _; rfl
  | succ k ih =>
    intro hk
    simp only [clmTo]
    rw [ih (by omega)]
    congr 2
    simp only [List.getD_eq_getElem?_getD]
    rw [List.getElem?_append_left (by omega)]
/-- what Claims answers. -/
def clmL (a : List Int) (h : Nat → Nat → Bool) (m : Nat) : List Int := (List.range m).map fun j => clmTo a h j a.length

/-- what Claims reads. -/
def ClmIn (W : World) (n m RB : Nat) (aao : Option Addr) (an : Nat) (a : List Int) (h : Nat → Nat → Bool) : Prop :=
  (∀ k, k < an → ∃ (p ab aoff : Nat), aao = some ⟨ab, aoff, none⟩ ∧ ab < W.heap.size ∧ W.cell? ⟨ab, aoff + k, none⟩ = some (.int .i64 (p : Int)) ∧ p < n ∧ (a.getD k 0).toNat = p) ∧ RB < W.heap.size ∧ ∀ q, q < n → ∃ rb, W.cell? ⟨RB, q, none⟩ = some (.slice (some ⟨rb, 0, none⟩) m m) ∧ rb < W.heap.size ∧ ∀ j, j < m → W.cell? ⟨rb, j, none⟩ = some (.bool (h q j))
theorem ClmIn.later {W W' : World} {n m RB : Nat} {aao : Option Addr} {an : Nat} {a : List Int} {h : Nat → Nat → Bool} (c : ClmIn W n m RB aao an a h) (hb : Below W.heap.size W W') : ClmIn W' n m RB aao an a h := by
  obtain ⟨c1, c2, c3⟩ := c
  refine ⟨fun k hk => ?_, Nat.lt_of_lt_of_le c2 hb.size, fun q hq => ?_⟩
  · obtain ⟨p, ab, aoff, e1, e2, e3, e4, e5⟩ := c1 k hk
    exact ⟨p, ab, aoff, e1, Nat.lt_of_lt_of_le e2 hb.size, (hb.cell (p := ⟨ab, aoff + k, none⟩) e2).trans e3, e4, e5⟩
  · obtain ⟨rb, e1, e2, e3⟩ := c3 q hq
    exact ⟨rb, (hb.cell (p := ⟨RB, q, none⟩) c2).trans e1, Nat.lt_of_lt_of_le e2 hb.size, fun j hj => (hb.cell (p := ⟨rb, j, none⟩) e2).trans (e3 j hj)⟩

/-- the row of claims under way. -/
structure ClmJ (T : World) (m : Nat) (f : Nat → Int) (W : World) : Prop where
  below : Below T.heap.size T W
  row : W.rowIs T.heap.size 3 m (fun j => .int .i64 (f j))
theorem ClmJ.put {T : World} {m : Nat} {f : Nat → Int} {W : World} (s : ClmJ T m f W) (p : Nat) (x : Int) (g : Nat → Int) (hg : ∀ j, j < m → g j = if j = p then x else f j) : ClmJ T m g (W.setCell ⟨T.heap.size, p, none⟩ (.int .i64 x)) := by
  refine ⟨s.below.setCell (Nat.le_refl _) _, (s.row.set p (.int .i64 x)).congr fun i hi => ?_⟩
  rw [hg i hi]
  by_cases hip : i = p
  · rw [if_pos hip, if_pos hip]
  · rw [if_neg hip, if_neg hip]
theorem ClmJ.congr {T : World} {m : Nat} {f g : Nat → Int} {W : World} (s : ClmJ T m f W) (hg : ∀ j, j < m → f j = g j) : ClmJ T m g W := ⟨s.below, s.row.congr fun i hi => by rw [hg i hi]⟩
theorem ClmJ.drew {T : World} {m : Nat} {f : Nat → Int} {W : World} (s : ClmJ T m f W) : ClmJ T m f W.drew := ⟨s.below.drew, row_later s.row (Below.refl _ _).drew⟩

set_option maxHeartbeats 1600000 in
set_option maxRecDepth 20000 in
/-- THE CONTRACT OF word.Claims, by what fill leaves. -/
theorem claims_of (b off n cap : Nat) (so lo : Option Addr) (sn sc ln lc m an : Nat) (props : Int) (a : List Int) (h : Nat → Nat → Bool) (w : World) (hm : m ≤ 24) (han : an ≤ 6)
    (hfi : ∀ w0, Below w.heap.size w w0 → Calls Tryd.prog 13 #[.slice (some ⟨b, off, none⟩) n cap, .agg #[.slice so sn sc, .slice lo ln lc], .int .i64 props] w0 fun e w' => ∃ B aao ac CB ccap RB, e = .returned (.tuple #[.agg #[.slice (some ⟨b, off, none⟩) n cap, .slice (some ⟨B, 0, none⟩) n n, .slice aao an ac, .slice (some ⟨CB, 0, none⟩) m ccap, .int .i64 (sn : Int), .slice (some ⟨RB, 0, none⟩) n n], .int .i64 0]) ∧ Below w.heap.size w w' ∧ Hid (ClmIn w' n m RB aao an a h)) :
    Calls Tryd.prog 6 #[.slice (some ⟨b, off, none⟩) n cap, .agg #[.slice so sn sc, .slice lo ln lc], .int .i64 props] w fun e w' => ∃ rb, e = .returned (.tuple #[.slice (some ⟨rb, 0, none⟩) m m, .int .i64 0]) ∧ Below w.heap.size w w' ∧ Hid (w'.rowIs rb 3 m (fun j => .int .i64 (clmTo a h j an))) := by
  have hmk := run_make_row' (P := Tryd.prog) 23 3 (.int .i64 0) 8 Tryd.underlying23 infoInt rfl .i64 .i64 m (by omega) (by omega)
  have hf1 := fun o => hfi (w.alloc o) ((Below.refl _ _).alloc (Nat.le_refl _) o)
  have HC0 : Hid (∀ j, clmTo a h j 0 = 0) := fun _ => rfl
  have HCS : Hid (∀ j k, clmTo a h j (k + 1) = clmTo a h j k + if h (a.getD k 0).toNat j = true then 2 ^ k else 0) := fun _ _ => rfl
  have HCB : Hid (∀ j k, 0 ≤ clmTo a h j k ∧ clmTo a h j k < 2 ^ k) := fun j k => clmTo_bounds a h j k
  generalize clmTo a h = cl at *
  clear hfi
  go_enter Tryd.func6, Tryd.ntmps6
  go_wp2_with (go_at_call 13; refine (hf1 _).mono ?_; rintro e w1 ⟨B, aao, ac, CB, ccap, RB, rfl, hb1, HI⟩)
  clear hf1 hmk
  obtain ⟨T, hT⟩ : ∃ T, T = w1.alloc (.cells #[.slice (some ⟨b, off, none⟩) n cap, .slice (some ⟨B, 0, none⟩) n n, .slice aao an ac, .slice (some ⟨CB, 0, none⟩) m ccap, .int .i64 (sn : Int), .slice (some ⟨RB, 0, none⟩) n n] 49) := ⟨_, rfl⟩
  have hts : T.heap.size = w1.heap.size + 1 := by rw [hT]; simp
  have hTb : Below w1.heap.size w1 T := by rw [hT]; exact (Below.refl _ _).alloc (Nat.le_refl _) _
  have HTI : Hid (ClmIn T n m RB aao an a h) := HI.out.later hTb
  have d5 : T.cell? ⟨w1.heap.size, 5, none⟩ = some (.slice (some ⟨RB, 0, none⟩) n n) := by rw [hT]; simp [go_sem]
  have d2 : T.cell? ⟨w1.heap.size, 2, none⟩ = some (.slice aao an ac) := by rw [hT]; simp [go_sem]
  rw [← hT, ← hts]
  have hU0 : ClmJ T m (fun j => cl j 0) (T.alloc (.cells (madeCells #[.int .i64 0] m) 3)) := by
    refine ⟨(Below.refl _ _).alloc (Nat.le_refl _) _, (World.rowIs_made T (.int .i64 0) m 3).congr fun i _ => by rw [HC0.out]⟩
  have HU0 : Hid (ClmJ T m (fun j => cl j 0) (T.alloc (.cells (madeCells #[.int .i64 0] m) 3))) := hU0
  have hbT : Below w.heap.size w T := hb1.trans (hTb.mono hb1.size)
  have HD : Hid (∀ W, Below T.heap.size T W → W.cell? ⟨w1.heap.size, 5, none⟩ = some (.slice (some ⟨RB, 0, none⟩) n n)) := fun W hb => (hb.cell (p := ⟨w1.heap.size, 5, none⟩) (by show w1.heap.size < _; omega)).trans d5
  have HTs : Hid (T.heap.size = w1.heap.size + 1) := hts
  generalize T.alloc (.cells (madeCells #[.int .i64 0] m) 3) = U0 at *
  clear hT hTb hU0 d2 d5 hb1 HI hts
  go_loopw [32] (fun i wr => ∃ k : Nat, k ≤ an ∧ i = .int .i64 (k : Int) ∧ Hid (ClmJ T m (fun j => cl j k) wr)) (fun i _ => an - (intOf i).toNat)
  case atStart => exact ⟨0, Nat.zero_le _, rfl, HU0.out⟩
  case round =>
    obtain ⟨k, hk, rfl, HJ⟩ := hrel
    clear HU0
    by_cases hlt : k < an
    · have hIr := HTI.out.later HJ.out.below
      obtain ⟨p, ab, aoff, rfl, habl, hca, hpn, hpe⟩ := hIr.1 k hlt
      obtain ⟨rb, hcr, hrl, hrc⟩ := (HTI.out.2.2 p hpn)
      have HRow : Hid (∀ W, Below T.heap.size T W → ∀ j, j < m → W.cell? ⟨rb, j, none⟩ = some (.bool (h p j))) := fun W hb j hj => (hb.cell (p := ⟨rb, j, none⟩) hrl).trans (hrc j hj)
      have hcr2 := (HJ.out.below.cell (p := ⟨RB, p, none⟩) HTI.out.2.1).trans hcr
      have hd5 := HD.out wr HJ.out.below
      have HS : Hid (∀ j, cl j (k + 1) = cl j k + if h p j = true then 2 ^ k else 0) := fun j => by rw [← hpe]; exact HCS.out j k
      have hk6 : k < 6 := by omega
      have hps := pow_small (k := k) (by omega)
      have h2k : (0 : Int) < 2 ^ k := Int.pow_pos (by decide)
      have HOr : Hid (∀ j, bits BinOp.or IntKind.i64 (cl j k) (2 ^ k) = cl j k + 2 ^ k) := fun j => or_bit hk6 (HCB.out j k).1 (HCB.out j k).2
      clear hIr hcr hrc HTI HCS HCB HC0 HD hpe
      generalize wr = wo at *
      go_wp2_with fail
      go_loopw [43] (fun i wr => ∃ q : Nat, q ≤ m ∧ i = .int .i64 (q : Int) ∧ Hid (ClmJ T m (fun j => if j < q then cl j (k + 1) else cl j k) wr)) (fun i _ => m - (intOf i).toNat)
      case atStart => exact ⟨0, Nat.zero_le _, rfl, HJ.out.congr fun j _ => by simp⟩
      case round =>
        obtain ⟨q, hq, rfl, HJq⟩ := hrel
        by_cases hlq : q < m
        · have hcb := HRow.out wr HJq.out.below q hlq
          have hcc := HJq.out.row.cell hlq
          have hfc := HJq.out.row.frozen q
          rw [if_neg (by omega)] at hcc
          have HOq : Hid (bits BinOp.or IntKind.i64 (cl q k) (2 ^ k) = cl q k + 2 ^ k) := HOr.out q
          have HSq : Hid (cl q (k + 1) = cl q k + if h p q = true then 2 ^ k else 0) := HS.out q
          have HNext : Hid (ClmJ T m (fun j => if j < q + 1 then cl j (k + 1) else cl j k) (wr.setCell ⟨T.heap.size, q, none⟩ (.int .i64 (cl q (k + 1))))) := HJq.out.put q _ _ fun j hj => by
            by_cases e : j = q
            · subst e; rw [if_pos (by omega), if_pos rfl]
            · rw [if_neg e]
              by_cases e2 : j < q
              · rw [if_pos (by omega), if_pos e2]
              · rw [if_neg (by omega), if_neg e2]
          generalize hhv : h p q = hv at *
          generalize cl q k = c0 at *
          cases hv with
          | true =>
            have HV1 : Hid (cl q (k + 1) = bits BinOp.or IntKind.i64 c0 (2 ^ k)) := by show _ = _; rw [HSq.out, HOq.out]; simp
            rw [HV1.out] at HNext
            clear HSq HOq HV1 hhv
            go_wp2_with fail
            go_region
            go_wp2_with fail
            exact ⟨⟨q + 1, hlq, by first | rfl | simp, HNext.out.drew⟩, by simp [intOf]; omega⟩
          | false =>
            have HJ2 : Hid (ClmJ T m (fun j => if j < q + 1 then cl j (k + 1) else cl j k) wr) := HJq.out.congr fun j hj => by
              by_cases e : j = q
              · subst e
                rw [if_neg (by omega), if_pos (by omega), HS.out, hhv]
                simp
              · by_cases e2 : j < q
                · rw [if_pos (by omega), if_pos (by omega)]
                · rw [if_neg (by omega), if_neg (by omega)]
            clear HSq HOq HNext
            go_wp2_with fail
            exact ⟨⟨q + 1, hlq, by first | rfl | simp, HJ2.out⟩, by simp [intOf]; omega⟩
        · obtain rfl : q = m := by omega
          have HJ2 : Hid (ClmJ T q (fun j => cl j (k + 1)) wr) := HJq.out.congr fun j hj => by rw [if_pos hj]
          go_wp2_with fail
          exact ⟨⟨k + 1, hlt, by first | rfl | simp, HJ2.out⟩, by simp [intOf]; omega⟩
    · obtain rfl : k = an := by omega
      have hbel := HJ.out.below
      go_wp2_with fail
      go_ret2
      exact ⟨_, rfl, hbT.trans (hbel.mono hbT.size), HJ.out.row⟩
end Go.Proofs.YtoeagklgfaoejaaDoor
