/-
  What the calls answer of a grown graph: a step, a lasso, a fair part.
-/
import Derived.Test.YtalpodgndfnjcaaKParts
import Derived.Test.YtalpodgndfnjcaaSLasso
namespace Go.Proofs.Ytalpodgndfnjcaa
open Go.ChangeShapes Go.WideShapes Go.ChangeAt Go.RowKit Go.Deep
open Terms

set_option maxRecDepth 20000 in
theorem mem_take_succ {l : List Int} {k : Nat} (hk : k < l.length) (x : Int) : x ∈ l.take (k + 1) ↔ x ∈ l.take k ∨ x = l.getD k 0 := by
  rw [List.take_succ_eq_append_getElem hk, show l[k] = l.getD k 0 by simp [List.getD_eq_getElem?_getD, hk]]
  simp
set_option maxRecDepth 20000 in
set_option maxHeartbeats 1600000 in
/-- THE CONTRACT OF has. -/
theorem has_any (v : Value) (l : List Int) (x : Int) (w : World) (hl : l.length ≤ 1000) (hI : IntsV w v l) :
    Calls Try.prog 26 #[v, .int .i64 x] w fun e w' => e = .returned (.bool (decide (x ∈ l))) ∧ Below w.heap.size w w' := by
  obtain ⟨vo, vc, rfl⟩ : ∃ vo vc, v = .slice vo l.length vc := by obtain ⟨a, c, e, _⟩ := hI; exact ⟨a, c, e⟩
  obtain ⟨n, hn⟩ : ∃ n, n = l.length := ⟨_, rfl⟩
  have HN : Hid (n = l.length) := hn
  have HI : Hid (IntsV w (.slice vo n vc) l) := by rw [hn]; exact hI
  rw [← hn] at hl ⊢
  obtain ⟨res, hres⟩ : ∃ res, decide (x ∈ l) = res := ⟨_, rfl⟩
  have HRes : Hid (decide (x ∈ l) = res) := hres
  rw [hres]
  clear hI hn hres
  go_enter Try.func26, Try.ntmps26
  go_wp2_with fail
  go_loopw [5] (fun i wr => ∃ k : Nat, k ≤ n ∧ i = .int .i64 k ∧ Hid (¬ x ∈ l.take k) ∧ wr = w) (fun i _ => n - (intOf i).toNat)
  case atStart => exact ⟨0, Nat.zero_le _, rfl, (show ¬ x ∈ l.take 0 by simp), rfl⟩
  case round =>
    obtain ⟨k, hk, rfl, HNo, rfl⟩ := hrel
    by_cases hlt : k < n
    · obtain ⟨b, off, rfl, hb, hc⟩ := HI.out.num (i := k) (by rw [← HN.out]; exact hlt)
      have hk' : k < l.length := by rw [← HN.out]; exact hlt
      by_cases hx : l.getD k 0 = x
      · have hr : res = true := by
          rw [← HRes.out]
          refine decide_eq_true ?_
          rw [← hx, show l.getD k 0 = l[k] by simp [List.getD_eq_getElem?_getD, hk']]
          exact List.getElem_mem hk'
        rw [hx] at hc
        subst hr
        clear hx hk'
        go_wp2_with fail
        go_ret
        exact ⟨rfl, Below.refl _ _⟩
      · have HNo2 : Hid (¬ x ∈ l.take (k + 1)) := by
          show ¬ _
          rw [mem_take_succ hk']
          rintro (h | h)
          · exact HNo.out h
          · exact hx h.symm
        generalize l.getD k 0 = y at hc hx
        clear hk' HNo
        go_wp2_with fail
        go_roundw
        case rel => exact ⟨k + 1, hlt, by go_num, HNo2.out, by first | rfl | trivial⟩
        case measure => simp [intOf]; omega
    · have hkn : k = n := by omega
      subst hkn
      have hr : res = false := by
        rw [← HRes.out]
        refine decide_eq_false ?_
        have := HNo.out
        rwa [List.take_of_length_le (by rw [← HN.out]; omega)] at this
      subst hr
      go_wp2_with fail
      go_ret
      exact ⟨rfl, Below.refl _ _⟩

theorem ints_nats {w : World} {v : Value} {l : List Nat} (h : NatsV w v l) : IntsV w v (l.map fun x : Nat => (x : Int)) := by
  obtain ⟨ao, cap, e, h2⟩ := h
  refine ⟨ao, cap, by rw [e]; simp, fun hne => ?_⟩
  obtain ⟨b, off, e1, h3, h4⟩ := h2 (fun e => hne (by rw [e]; rfl))
  refine ⟨b, off, e1, h3, fun i hi => ?_⟩
  have hi2 : i < l.length := by simpa using hi
  rw [h4 i hi2]
  simp [List.getD_eq_getElem?_getD, hi2]
theorem mem_nats (l : List Nat) (b : Nat) : ((b : Int) ∈ l.map fun x : Nat => (x : Int)) ↔ b ∈ l := by
  rw [List.mem_map]
  constructor
  · rintro ⟨a, h1, h2⟩
    have : a = b := by omega
    exact this ▸ h1
  · intro h
    exact ⟨b, h, rfl⟩
theorem KGot.nrows {w : World} {so no bo : Option Addr} {sc nc bc n gi mm : Nat} {g : Gr} (h : KGot w so sc no nc bo bc n gi mm g) : NextRows w no n (nxt g) := by
  have h1 := h.ok.head.next
  have h2 := h.ok.head.sets
  have h3 := h.len
  have := kgraph_rows (so := so) (sc := sc) (no := no) (nc := nc) (bo := bo) (bc := bc) h.ok (w := w) (by rw [h1, h2, h3]; exact h.v)
  rw [h3] at this
  exact this
set_option maxHeartbeats 1600000 in
set_option maxRecDepth 20000 in
/-- THE CONTRACT OF leads, at a place. -/
theorem KGot.leads {w : World} {so no bo : Option Addr} {sc nc bc n gi mm : Nat} {g : Gr} (h : KGot w so sc no nc bo bc n gi mm g) {a b : Nat} (ha : a < n) (hab : b ∈ nxt g a) :
    Calls Try.prog 15 #[.agg #[.slice so n sc, .int .i64 (gi : Int), .slice no n nc, .slice bo n bc, .int .i64 (mm : Int)], .int .i64 (a : Int), .int .i64 (b : Int)] w fun e w' => e = .returned (.bool true) ∧ Below w.heap.size w w' := by
  have hn := h.small
  obtain ⟨W0, hW0⟩ : ∃ W0, W0 = w.alloc (.cells #[.slice so n sc, .int .i64 (gi : Int), .slice no n nc, .slice bo n bc, .int .i64 (mm : Int)] 28) := ⟨_, rfl⟩
  have hA : Below w.heap.size w W0 := by rw [hW0]; exact (Below.refl _ _).alloc (Nat.le_refl _) _
  obtain ⟨nb, noff, rfl, hnb, uo, uc, hcu0, hnv0⟩ := h.nrows a ha
  have hr6 : (nxt g a).length ≤ 6 := by rw [nxt_length]; exact h.rows a ha
  have hcu := (hA.cell (p := ⟨nb, noff + a, none⟩) hnb).trans hcu0
  have k2 : W0.cell? ⟨w.heap.size, 2, none⟩ = some (.slice (some ⟨nb, noff, none⟩) n nc) := by rw [hW0]; simp [go_sem]
  have hha := has_any (.slice uo (nxt g a).length uc) ((nxt g a).map fun x : Nat => (x : Int)) (b : Int) W0 (by simp; omega) (ints_nats (hnv0.below hA))
  rw [decide_eq_true ((mem_nats _ _).2 hab)] at hha
  generalize (nxt g a).length = ln at *
  clear hnv0 h hcu0
  rw [hW0] at hha hcu k2
  have HW0 : Hid (W0 = w.alloc (.cells #[.slice so n sc, .int .i64 (gi : Int), .slice (some ⟨nb, noff, none⟩) n nc, .slice bo n bc, .int .i64 (mm : Int)] 28)) := hW0
  clear hW0
  have h1 : (0 : Int) ≤ (a : Int) := by omega
  have h2 : (a : Int) < (n : Int) := by omega
  go_enter Try.func15, Try.ntmps15
  go_wp2_with (go_at_call 26; refine hha.mono ?_; rintro e w1 ⟨rfl, hb1⟩)
  go_ret
  rw [← HW0.out] at hb1
  exact ⟨by first | rfl | simp, hA.trans (hb1.mono hA.size)⟩
theorem KGot.lasso {w : World} {so no bo : Option Addr} {sc nc bc n gi mm : Nat} {g : Gr} (h : KGot w so sc no nc bo bc n gi mm g) :
    Calls Try.prog 13 #[.agg #[.slice so n sc, .int .i64 (gi : Int), .slice no n nc, .slice bo n bc, .int .i64 (mm : Int)]] w fun e w' => ∃ v c, e = .returned (.tuple #[v, .int .i64 c]) ∧ Below w.heap.size w w' ∧ Hid (LassoV g w' v c) := by
  have h1 := h.ok.head.next
  have h2 := h.ok.head.sets
  have h3 := h.len
  have hh := slasso_ok so no bo sc nc bc g w h.le (by rw [h1, h2, h3]; exact h.v) h.code
  rw [h1, h2, h3, h.init, h.many] at hh
  exact hh
theorem KGot.fair {w : World} {so no bo : Option Addr} {sc nc bc n gi mm : Nat} {g : Gr} (h : KGot w so sc no nc bo bc n gi mm g) :
    Calls Try.prog 14 #[.agg #[.slice so n sc, .int .i64 (gi : Int), .slice no n nc, .slice bo n bc, .int .i64 (mm : Int)]] w fun e w' => e = .returned (.tuple #[.int .i64 (fairV g), .int .i64 (fairC g)]) ∧ Below w.heap.size w w' := by
  have h1 := h.ok.head.next
  have h2 := h.ok.head.sets
  have h3 := h.len
  have hh := sfair_ok so no bo sc nc bc g w h.le (by rw [h1, h2, h3]; exact h.v) h.code
  rw [h1, h2, h3, h.init, h.many] at hh
  exact hh
theorem fair_val {g : Gr} (h : fairC g = 11) : fairV g = 0 := by
  unfold fairC at h
  unfold fairV
  cases e : fairR g with
  | none => rfl
  | some x => rw [e] at h; simp at h
theorem Trail.at {nx : Nat → List Nat} : ∀ {l : List Nat} {k : Nat}, Trail nx l → k + 1 < l.length → l.getD (k + 1) 0 ∈ nx (l.getD k 0)
  | [], _, _, h => by simp at h
  | [_], _, _, h => by simp at h
  | _ :: _ :: _, 0, h, _ => h.1
  | _ :: b :: l, k + 1, h, hk => Trail.at (l := b :: l) (k := k) h.2 (by simpa using hk)
end Go.Proofs.Ytalpodgndfnjcaa
