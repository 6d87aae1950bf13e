/-
  The contract of package expr's (work).at, whole.
-/
import Derived.Test.YtnicbkkkecfdpaaDoorAt3
namespace Go.Proofs.YtnicbkkkecfdpaaDoor
open Go.ChangeShapes Go.WideShapes Go.ChangeAt Go.RowKit Go.Deep
open Terms Tm

/-- THE CONTRACT OF (work).at. -/
theorem at_any (b off n cap B : Nat) (eao : Option Addr) (en ecap M vars : Nat) (t : Tm) (env : List Int) (hn : n = t.size) (h60 : n ≤ 60) (hg : t.Good vars) (hty : t.typed = true) (hev : EnvOk env) (hen : env.length = vars) (hen2 : en = vars) (d : Nat) :
    ∀ (place : Nat) (w : World), place < n → (t.sub place).size ≤ d → WorkAt w b off B eao M t env →
    Calls Tryd.prog 64 #[workV b off n cap B eao en ecap M, .int .i64 place] w (AtPost ((t.sub place).eval env) w) := by
  induction d with
  | zero => intro place w _ hd; have := (t.sub place).size_pos; omega
  | succ d ih =>
    intro place w hp hd hW
    have hpt : place < t.size := by omega
    obtain ⟨s, hs⟩ : ∃ s, s = t.sub place := ⟨_, rfl⟩
    have hsg : s.Good vars := by rw [hs]; exact hg.sub _
    have hst : s.typed = true := by
      rw [hs]
      refine (typed_iff _).2 fun q hq => ?_
      rw [← t.sub_sub place q hpt hq]
      exact (typed_iff _).1 hty _ (by have := t.sub_fits hpt; omega)
    obtain ⟨c0, c1⟩ := hW.ops place (by rw [ops_length]; exact hpt)
    rw [op_at t hpt, ← hs] at c0 c1
    simp only at c0 c1
    have HKI : ∀ i, i < s.kids.length → place + s.koff i < n ∧ t.sub (place + s.koff i) = s.kids.getD i s ∧ endAt (t.ops.map Prod.fst) (place + s.koff i) = place + s.koff (i + 1) := fun i hi => by
      subst hs
      obtain ⟨h1, h2, h3, _⟩ := kid_in hg.wf hpt hi
      exact ⟨by omega, h2, h3⟩
    rw [← hs] at hd ⊢
    cases s with
    | leaf k v =>
      rcases hsg with ⟨rfl, h1, h2⟩ | ⟨rfl, h1, h2⟩ | ⟨hk, rfl⟩
      · exact at_num b off n cap B eao en ecap M place v w hW.ob hp c0 c1
      · obtain ⟨j, rfl⟩ := Int.eq_ofNat_of_zero_le h1
        obtain ⟨eb, eoff, rfl, e2, e3⟩ := hW.env j (by omega)
        exact at_var b off n cap B eb eoff en ecap M place j _ w hW.ob hp (by omega) c0 c1 e2 e3
      · have he : (Tm.leaf k 0).eval env = some (if k = 11 then 1 else 0) := by
          simp only [Tm.eval]
          rw [if_neg (by omega), if_neg (by omega)]
        rw [he]
        exact at_lit b off n cap B eao en ecap M place k hk w hW.ob hp c0 c1
    | un k v a =>
      obtain ⟨rfl, rfl, ha⟩ := hsg
      obtain ⟨p1, p2, _⟩ := HKI 0 (by simp [kids])
      rw [koff_zero] at p1 p2
      have hsz : a.size ≤ d := by simp only [Tm.size] at hd; omega
      have hta : a.typed = true := by simp only [Tm.typed, Bool.and_eq_true] at hst; exact hst.2
      have hrec : ∀ w', Below w.heap.size w w' → Calls Tryd.prog 64 #[workV b off n cap B eao en ecap M, .int .i64 ((place : Int) + 1)] w' (AtPost (a.eval env) w') := fun w' hw' => by
        have h := ih (place + 1) w' p1 (by rw [p2]; exact hsz) (hW.later hw')
        rw [p2] at h
        exact h
      have h := at_not b off n cap B eao en ecap M place (a.eval env) w hW.ob hp h60 c0 c1 (fun x hx => (eval_le hev hen ha hta x hx).1) hrec
      have he : (Tm.un 10 0 a).eval env = (a.eval env).map (1 - ·) := by
        simp only [Tm.eval]
        cases a.eval env <;> rfl
      rw [he]
      exact h
    | bi k v a b' =>
      obtain ⟨h3, h9, rfl, ha, hb⟩ := hsg
      obtain ⟨p1, p2, p3⟩ := HKI 0 (by simp [kids])
      obtain ⟨q1, q2, _⟩ := HKI 1 (by simp [kids])
      rw [koff_zero] at p1 p2 p3
      rw [Nat.zero_add] at p3
      have hsa : a.size ≤ d := by simp only [Tm.size] at hd; omega
      have hsb : b'.size ≤ d := by simp only [Tm.size] at hd; omega
      simp only [Tm.typed, Bool.and_eq_true, beq_iff_eq] at hst
      obtain ⟨⟨ka, hta⟩, kb, htb⟩ := hst
      have hra : ∀ w', Below w.heap.size w w' → Calls Tryd.prog 64 #[workV b off n cap B eao en ecap M, .int .i64 (place + 1 : Nat)] w' (AtPost (a.eval env) w') := fun w' hw' => by
        have h := ih (place + 1) w' p1 (by rw [p2]; exact hsa) (hW.later hw')
        rw [p2] at h
        exact h
      have hrb : ∀ w', Below w.heap.size w w' → Calls Tryd.prog 64 #[workV b off n cap B eao en ecap M, .int .i64 (place + (Tm.bi k 0 a b').koff 1 : Nat)] w' (AtPost (b'.eval env) w') := fun w' hw' => by
        have h := ih (place + (Tm.bi k 0 a b').koff 1) w' q1 (by rw [q2]; exact hsb) (hW.later hw')
        rw [q2] at h
        exact h
      have cE := hW.ends.cell (i := place + 1) (by omega)
      rw [p3] at cE
      have hlook := fun w' (hw' : Below w.heap.size w w') => (hW.pairs.later hw').look h3 h9
      have hent := pair_enters k h3 h9
      have hae := eval_le hev hen ha hta
      have hbe := eval_le hev hen hb htb
      simp only [Tm.eval]
      cases hx : a.eval env with
      | none =>
        rw [hx] at hra
        exact at_bi_a b off n cap B eao en ecap M place _ (pairFn k) k 0 0 (bin k 0 0) w hW.ob hW.ends.lt (by omega) (place + 1) rfl h60 h3 h9 c0 c1 cE hlook hent (fun w' => pair_any k 0 0 w' h3 h9 (by omega) (by omega) (fun _ => ⟨.inl rfl, .inl rfl⟩)) hra
          (fun h => h.out.elim)
      | some x =>
        rw [hx] at hra
        have hxl := hae x hx
        cases hy : b'.eval env with
        | none =>
          rw [hy] at hrb
          exact at_bi_b b off n cap B eao en ecap M place _ (pairFn k) k x 0 (bin k x 0) w hW.ob hW.ends.lt (by omega) (place + 1) rfl h60 h3 h9 c0 c1 cE hlook hent (fun w' => pair_any k x 0 w' h3 h9 hxl.1 (by omega) (fun h8 => ⟨hxl.2 (by rw [ka]; simp [tkT]; omega), .inl rfl⟩)) hra hrb
        | some y =>
          rw [hy] at hrb
          have hyl := hbe y hy
          exact at_bi b off n cap B eao en ecap M place _ (pairFn k) k x y (bin k x y) w hW.ob hW.ends.lt (by omega) (place + 1) rfl h60 h3 h9 c0 c1 cE hlook hent (fun w' => pair_any k x y w' h3 h9 hxl.1 hyl.1 (fun h8 => ⟨hxl.2 (by rw [ka]; simp [tkT]; omega), hyl.2 (by rw [kb]; simp [tkT]; omega)⟩)) hra hrb
end Go.Proofs.YtnicbkkkecfdpaaDoor
