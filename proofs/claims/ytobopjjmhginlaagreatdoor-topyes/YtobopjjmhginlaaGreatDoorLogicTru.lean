import Derived.Test.YtobopjjmhginlaaGreatDoorLogicBack
namespace Go.Proofs.YtobopjjmhginlaaGreatDoor
open Go.ChangeShapes Go.WideShapes Go.ChangeAt Go.RowKit Go.Deep Go.Shelf
open Terms
set_option maxHeartbeats 6400000
set_option maxRecDepth 20000
attribute [local go_sem] Oper.semAt_some
def iniB (l : List (Int × Int)) (claim : Int) (k : Nat) (j : Nat) : Bool := if lookB (l.getD j (0, 0)).1 = true /\ (aheadTo l j).length < k then bitB claim (aheadTo l j).length else false
def stepB (l : List (Int × Int)) (letter : List Bool) (h : Nat -> Bool) (p : Nat) : Nat -> Bool := if lookB (l.getD p (0, 0)).1 = true then h else fun j => if j = p then mkB (l.getD p (0, 0)) letter (h (p + 1)) (h (sec l p)) else h j
def foldB (l : List (Int × Int)) (letter : List Bool) (h : Nat -> Bool) {n : Nat} (xs : List (Fin n)) : Nat -> Bool := xs.foldl (fun h x => stepB l letter h x.1) h
theorem foldB_snoc (l : List (Int × Int)) (letter : List Bool) (h : Nat -> Bool) {n : Nat} (xs : List (Fin n)) (x : Fin n) : foldB l letter h (xs ++ [x]) = stepB l letter (foldB l letter h xs) x.1 := by simp [foldB]
theorem foldB_done {l : List (Int × Int)} {letter : List Bool} {claim : Int} (hz : endsCode (l.map Prod.fst) = 0) {n : Nat} (h0n : 0 < n) (hn : n = l.length) :
    ∀ k, k <= n -> ∀ j, j < n -> foldB l letter (iniB l claim (aheadL l).length) (backTo h0n k) j = if n - k <= j then tru l letter claim j else iniB l claim (aheadL l).length j := by
  intro k
  induction k with
  | zero =>
    intro _ j hj; rw [if_neg (by omega)]
    simp [backTo, foldB]
  | succ k ih =>
    intro hk j hj; have ih' := ih (by omega)
    rw [backTo_succ, foldB_snoc]; have hp : (backAt h0n k).1 = n - 1 - k := rfl; rw [hp]; obtain ⟨p, hpe⟩ : ∃ p, p = n - 1 - k := ⟨_, rfl⟩
    rw [<- hpe]; have hpl : p < l.length := by omega
    unfold stepB
    cases hb : lookB (l.getD p (0, 0)).1 with
    | true =>
      rw [if_pos rfl, ih' j hj]
      by_cases hjp : j = p
      · subst hjp
        rw [if_neg (by omega), if_pos (by omega), tru_look hpl hb]
        unfold iniB; exact if_pos ⟨hb, aheadTo_lt l hpl hb⟩
      · by_cases hle : n - k <= j
        · rw [if_pos hle, if_pos (by omega)]
        · rw [if_neg hle, if_neg (by omega)]
    | false =>
      rw [if_neg (by decide)]
      by_cases hjp : j = p
      · subst hjp
        rw [if_pos rfl, if_pos (by omega)]
        obtain ⟨h1, h2⟩ := part_in hz hpl; rw [tru_mk hpl hb (fun h => (h2 h).1)]
        have hpn := pn_le (l.getD j (0, 0)).1
        by_cases p2 : pn (l.getD j (0, 0)).1 = 2
        · obtain ⟨s1, s2⟩ := h2 p2
          have s0 := h1 (by omega)
          rw [ih' (j + 1) (by omega), ih' (sec l j) (by omega), if_pos (by omega), if_pos (by omega)]
        · have hk89 : (l.getD j (0, 0)).1 ≠ 8 /\ (l.getD j (0, 0)).1 ≠ 9 := by
            constructor <;> intro e <;> rw [e] at p2 <;> exact absurd rfl p2
          by_cases p1 : pn (l.getD j (0, 0)).1 = 1
          · have s0 := h1 (by omega)
            rw [ih' (j + 1) (by omega), if_pos (by omega)]
            simp only [mkB, hk89.1, hk89.2, if_false]
          · have hk10 : (l.getD j (0, 0)).1 ≠ 10 := by intro e; rw [e] at p1; exact absurd rfl p1
            simp only [mkB, hk89.1, hk89.2, hk10, if_false]
      · rw [if_neg hjp, ih' j hj]
        by_cases hle : n - k <= j
        · rw [if_pos hle, if_pos (by omega)]
        · rw [if_neg hle, if_neg (by omega)]
structure TrSt (w : World) (fo ev av lv : Value) (n : Nat) (h : Nat -> Bool) (W0s : Nat) (W : World) : Prop where
  three : Three W w.heap.size fo ev av
  letter : W.cell? ⟨w.heap.size + 1, 0, none⟩ = some lv
  holds : W.cell? ⟨w.heap.size + 1 + 1 + 1, 0, none⟩ = some (.slice (some ⟨w.heap.size + 1 + 1, 0, none⟩) n n)
  row : W.rowIs (w.heap.size + 1 + 1) 4 n (fun j => .bool (h j))
  below : Below w.heap.size w W
  size : W0s <= W.heap.size
theorem TrSt.later {w : World} {fo ev av lv : Value} {n : Nat} {h : Nat -> Bool} {s B : Nat} {W W' : World} (t : TrSt w fo ev av lv n h s W) (hb : Below B W W') (hB : w.heap.size + 4 <= B) : TrSt w fo ev av lv n h s W' :=
  ⟨t.three.below hb (by omega), (hb.cell (p := ⟨w.heap.size + 1, 0, none⟩) (by simp; omega)).trans t.letter, (hb.cell (p := ⟨w.heap.size + 1 + 1 + 1, 0, none⟩) (by simp; omega)).trans t.holds, t.row.of_block (hb.block _ (by omega)), t.below.trans (hb.mono (by omega)), Nat.le_trans t.size hb.size⟩
theorem TrSt.congr {w : World} {fo ev av lv : Value} {n : Nat} {h h' : Nat -> Bool} {s : Nat} {W : World} (t : TrSt w fo ev av lv n h s W) (e : ∀ j, j < n -> h j = h' j) : TrSt w fo ev av lv n h' s W :=
  ⟨t.three, t.letter, t.holds, t.row.congr fun j hj => by rw [e j hj], t.below, t.size⟩
theorem TrSt.put {w : World} {fo ev av lv : Value} {n : Nat} {h : Nat -> Bool} {s : Nat} {W : World} (t : TrSt w fo ev av lv n h s W) (p : Nat) (x : Bool) : TrSt w fo ev av lv n (fun j => if j = p then x else h j) s (W.setCell ⟨w.heap.size + 1 + 1, p, none⟩ (.bool x)) := by
  have hb : ∀ k, k ≠ w.heap.size + 1 + 1 -> (W.setCell ⟨w.heap.size + 1 + 1, p, none⟩ (.bool x)).heap[k]? = W.heap[k]? := fun k hk => Below.heap_setCell W _ _ k hk
  have hc : ∀ k q, k ≠ w.heap.size + 1 + 1 -> (W.setCell ⟨w.heap.size + 1 + 1, p, none⟩ (.bool x)).cell? ⟨k, q, none⟩ = W.cell? ⟨k, q, none⟩ := fun k q hk => World.cell?_of_block (w := W) (hb k hk)
  have hf : ∀ q, (W.setCell ⟨w.heap.size + 1 + 1, p, none⟩ (.bool x)).frozen? ⟨w.heap.size, q, none⟩ = W.frozen? ⟨w.heap.size, q, none⟩ := fun q => by rw [World.frozen?_setCell]
  obtain ⟨k0, k1, k2, f0, f1, f2, hl⟩ := t.three; refine ⟨⟨(hc _ _ (by omega)).trans k0, (hc _ _ (by omega)).trans k1, (hc _ _ (by omega)).trans k2, (hf 0).trans f0, (hf 1).trans f1, (hf 2).trans f2, by simpa using hl⟩, (hc _ _ (by omega)).trans t.letter, (hc _ _ (by omega)).trans t.holds, ?_, t.below.setCell (by simp; omega) _, by simpa using t.size⟩
  refine (t.row.set p (.bool x)).congr fun i _ => ?_
  by_cases hip : i = p
  · rw [if_pos hip, if_pos hip]
  · rw [if_neg hip, if_neg hip]
theorem TrSt.drew {w : World} {fo ev av lv : Value} {n : Nat} {h : Nat -> Bool} {s : Nat} {W : World} (t : TrSt w fo ev av lv n h s W) : TrSt w fo ev av lv n h s W.drew :=
  ⟨⟨t.three.1, t.three.2.1, t.three.2.2.1, t.three.2.2.2.1, t.three.2.2.2.2.1, t.three.2.2.2.2.2.1, t.three.2.2.2.2.2.2⟩, t.letter, t.holds, t.row.of_block rfl, t.below.drew, t.size⟩
theorem bits_small : ∀ c, c < 64 -> (bits BinOp.and IntKind.i64 ((c : Nat) : Int) 1 == 1) = decide (((c : Nat) : Int) % 2 = 1) := by decide
theorem bits_bitB {claim : Int} {k : Nat} (h0 : 0 <= claim) (h : claim < 64) : (bits BinOp.and IntKind.i64 (claim / 2 ^ k) 1 == 1) = bitB claim k := by
  have h2 : (0 : Int) < 2 ^ k := Int.pow_pos (by decide)
  have h3 : 0 <= claim / 2 ^ k := Int.ediv_nonneg h0 (Int.le_of_lt h2); have h4 : claim / 2 ^ k <= claim := Int.ediv_le_self _ h0; obtain ⟨c, hc⟩ : ∃ c : Nat, claim / 2 ^ k = c := ⟨(claim / 2 ^ k).toNat, by omega⟩
  unfold bitB; rw [hc]; exact bits_small c (by omega)
theorem iniB_step {l : List (Int × Int)} {claim : Int} {k p : Nat} (hlk : lookB (l.getD p (0, 0)).1 = true) (hpi : (aheadTo l p).length = k) (j : Nat) : (if j = p then bitB claim k else iniB l claim k j) = iniB l claim (k + 1) j := by
  unfold iniB
  by_cases hjp : j = p
  · subst hjp
    rw [if_pos rfl, if_pos ⟨hlk, by omega⟩, hpi]
  · rw [if_neg hjp]
    by_cases hb : lookB (l.getD j (0, 0)).1 = true
    · have hne : (aheadTo l j).length ≠ k := by
        intro e
        rcases Nat.lt_or_gt_of_ne hjp with h | h
        · have := aheadTo_lt l h hb; omega
        · have := aheadTo_lt l h hlk; omega
      by_cases hl : (aheadTo l j).length < k
      · rw [if_pos ⟨hb, hl⟩, if_pos ⟨hb, by omega⟩]
      · rw [if_neg (fun h => hl h.2), if_neg (fun h => by have := h.2; omega)]
    · rw [if_neg (fun h => hb h.1), if_neg (fun h => hb h.1)]
theorem truths_out (fv lv : Value) (fo ev : Value) (aao : Option Addr) (an ac : Nat) (claim : Int) (lo : Option Addr) (ln lc : Nat) (oo eo : Option Addr) (on oc en ec : Nat) (hfo : fo = .slice oo on oc) (hev : ev = .slice eo en ec) (hlv : lv = .slice lo ln lc) (hfv : fv = .agg #[fo, ev, .slice aao an ac]) (h6 : an <= 6) (w : World) (h : claim < 0 \/ 2 ^ an <= claim) :
    Calls Tryz.prog 64 #[fv, lv, .int .i64 claim] w fun e w' => e = .returned (.tuple #[.slice none 0 0, .int .i64 2]) /\ Below w.heap.size w w' := by
  subst hfo hev hlv hfv; have hb : ∀ o o', Below w.heap.size w ((w.alloc o).alloc o') := fun o o' => ((Below.refl _ _).alloc (Nat.le_refl _) o).alloc (by simp) o'
  rcases h with h | h
  · go_enter Tryz.func64, Tryz.ntmps64
    go_wp2_with fail
    go_ret2
    exact ⟨rfl, hb _ _⟩
  · have h0 : 0 <= claim := by have : (0 : Int) < 2 ^ an := Int.pow_pos (by decide); omega
    have hcase : an = 0 \/ an = 1 \/ an = 2 \/ an = 3 \/ an = 4 \/ an = 5 \/ an = 6 := by omega
    clear h6
    rcases hcase with rfl | rfl | rfl | rfl | rfl | rfl | rfl
    all_goals
      simp only [Int.reducePow] at h
      go_enter Tryz.func64, Tryz.ntmps64
      go_wp2_with fail
      go_ret2
      exact ⟨rfl, hb _ _⟩
end Go.Proofs.YtobopjjmhginlaaGreatDoor
