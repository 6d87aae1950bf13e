/-
  The library's IndexFunc, ContainsFunc, Index and Contains, as the store asks them.
-/
import Derived.Test.YtncfkpfbjenpjaaUApp
import Derived.Test.YtncfkpfbjenpjaaShelfSort
namespace Go.Proofs.Ytncfkpfbjenpjaa
open Go.ChangeShapes Go.WideShapes Go.ChangeAt Go.RowKit Go.Deep

/-! ### is a run empty? -/
def empB (r : List Int) : Bool := r.length == 0
theorem isEmpty_any (ao : Option Addr) (n cap : Nat) (w : World) : Calls Try.prog 33 #[.slice ao n cap] w fun e w' => e = .returned (.bool (n == 0)) ∧ w' = w := by
  by_cases h : n = 0
  · subst h
    go_enter Try.func33, Try.ntmps33
    go_wp2
    go_ret
    exact ⟨rfl, rfl⟩
  · have h2 : ¬ (n : Int) = 0 := by omega
    rw [show (n == 0) = false by simp [h]]
    go_enter Try.func33, Try.ntmps33
    go_wp2
    go_ret
    exact ⟨by first | rfl | (simp; exact h), rfl⟩
set_option maxHeartbeats 800000 in
set_option maxRecDepth 20000 in
theorem index_empty (ao : Option Addr) (cap : Nat) (rs : List (List Int)) (w : World) (hl : rs.length ≤ 140737488355328) (hV : LisV w (.slice ao rs.length cap) rs) :
    Calls Try.prog 37 #[.slice ao rs.length cap, .func (.func 33) #[] #[]] w fun e w' => ∃ q : Int, e = .returned (.int .i64 q) ∧ w' = w ∧ (rs.any empB = true → 0 ≤ q) ∧ (rs.any empB = false → q = -1) := by
  obtain ⟨n, hn⟩ : ∃ n, rs.length = n := ⟨_, rfl⟩
  have H : Hid (LisV w (.slice ao rs.length cap) rs) := hV
  rw [hn] at hl H ⊢
  have HN : Hid (rs.length = n) := hn
  clear hV hn
  go_enter Try.func37, Try.ntmps37
  go_wp2
  go_loopw [8] (fun i wr => ∃ k : Nat, k ≤ n ∧ i = .int .i64 k ∧ (rs.take k).any empB = false ∧ wr = w) (fun i _ => n - (intOf i).toNat)
  case atStart => exact ⟨0, Nat.zero_le _, rfl, rfl, rfl⟩
  case round =>
    obtain ⟨k, hk, rfl, HT, rfl⟩ := hrel
    by_cases hlt : k < n
    · have hlt2 : k < rs.length := by rw [HN.out]; exact hlt
      obtain ⟨b, off, rfl, _, u, c1, hu⟩ := H.out.at hlt2
      obtain ⟨uo, uc, rfl⟩ := hu.shape
      have hou := isEmpty_any uo (rs.getD k []).length uc wr
      have hst : (rs.take (k + 1)).any empB = empB (rs.getD k []) := by
        rw [take_get hlt2 [], List.any_append, HT]
        simp
      have hany : empB (rs.getD k []) = true → rs.any empB = true := fun h => List.any_eq_true.2 ⟨rs.getD k [], getD_mem hlt2 [], h⟩
      have HS : Hid ((rs.take (k + 1)).any empB = empB (rs.getD k [])) := hst
      have HAn : Hid (empB (rs.getD k []) = true → rs.any empB = true) := hany
      unfold empB at HS HAn
      clear hst hany HT hu
      generalize (rs.getD k []).length = x at *
      generalize hxx : (x == 0) = o at *
      clear hxx
      cases o
      · go_wp2_with (go_at_call 33; refine hou.mono ?_; rintro e w1 ⟨rfl, rfl⟩)
        go_roundw
        case rel => exact ⟨k + 1, by omega, by go_num, HS.out, by trivial⟩
        case measure => simp [intOf]; omega
      · go_wp2_with (go_at_call 33; refine hou.mono ?_; rintro e w1 ⟨rfl, rfl⟩)
        go_ret
        exact ⟨_, rfl, rfl, fun _ => by omega, fun h => by have := HAn.out (by trivial); unfold empB at h; rw [this] at h; simp at h⟩
    · obtain rfl : k = n := by omega
      have hall : rs.take k = rs := by rw [List.take_of_length_le]; rw [HN.out]; omega
      rw [hall] at HT
      have HT' : Hid (rs.any empB = false) := HT
      clear HT
      go_wp2
      go_ret
      exact ⟨-1, rfl, rfl, fun h => by rw [HT'.out] at h; simp at h, fun _ => rfl⟩
set_option maxRecDepth 20000 in
theorem containsE_any (ao : Option Addr) (cap : Nat) (rs : List (List Int)) (w : World) (hl : rs.length ≤ 140737488355328) (hV : LisV w (.slice ao rs.length cap) rs) :
    Calls Try.prog 27 #[.slice ao rs.length cap, .func (.func 33) #[] #[]] w fun e w' => e = .returned (.bool (rs.any empB)) ∧ w' = w := by
  have hx := index_empty ao cap rs w hl hV
  generalize rs.length = n at *
  generalize rs.any empB = o at *
  clear hV
  cases o
  all_goals
    go_enter Try.func27, Try.ntmps27
    go_wp2_with (go_at_call 37; refine hx.mono ?_; rintro e w1 ⟨q, rfl, rfl, h1, h2⟩; first | (obtain rfl := h2 rfl) | (have h3 := h1 rfl))
    go_ret
    exact ⟨by first | rfl | trivial, rfl⟩

/-! ### is a key not above the one ahead of it? -/
def CellIs (w : World) (g : Nat) (x : Int) : Prop := g < w.heap.size ∧ w.cell? ⟨g, 0, none⟩ = some (.int .i64 x) ∧ w.frozen? ⟨g, 0, none⟩ = false
theorem CellIs.later {w w' : World} {g : Nat} {x : Int} (h : CellIs w g x) (hb : Below w.heap.size w w') : CellIs w' g x :=
  ⟨Nat.lt_of_lt_of_le h.1 hb.size, (hb.cell (p := ⟨g, 0, none⟩) h.1).trans h.2.1, (hb.frozen (p := ⟨g, 0, none⟩) h.1).trans h.2.2⟩
theorem CellIs.set {w : World} {g : Nat} {a x : Int} (h : CellIs w g a) : Below g w (w.setCell ⟨g, 0, none⟩ (.int .i64 x)) ∧ CellIs (w.setCell ⟨g, 0, none⟩ (.int .i64 x)) g x := by
  obtain ⟨h0, h1, h2⟩ := h
  exact ⟨(Below.refl _ _).setCell (p := ⟨g, 0, none⟩) (Nat.le_refl _) _, by simpa using h0, by simp [go_sem, h1], by simp [go_sem, h2]⟩
theorem nr1_any (g : Nat) (x a : Int) (w : World) (h : CellIs w g a) :
    Calls Try.prog 35 #[.int .i64 x, .pointer (some ⟨g, 0, none⟩)] w fun e w' => e = .returned (.bool (decide (x ≤ a) || decide (2147483647 < x))) ∧ Below g w w' ∧ Hid (CellIs w' g x) := by
  have HS : Hid (Below g w (w.setCell ⟨g, 0, none⟩ (.int .i64 x)) ∧ CellIs (w.setCell ⟨g, 0, none⟩ (.int .i64 x)) g x) := h.set
  obtain ⟨h0, h1, h2⟩ := h
  by_cases hx : x ≤ a
  · rw [show (decide (x ≤ a) || decide (2147483647 < x)) = true by simp [hx]]
    go_enter Try.func35, Try.ntmps35
    go_wp2
    go_ret
    exact ⟨rfl, HS.out.1, HS.out.2⟩
  · by_cases hy : 2147483647 < x
    · rw [show (decide (x ≤ a) || decide (2147483647 < x)) = true by simp [hy]]
      go_enter Try.func35, Try.ntmps35
      go_wp2
      go_ret
      exact ⟨rfl, HS.out.1, HS.out.2⟩
    · rw [show (decide (x ≤ a) || decide (2147483647 < x)) = false by simp [hx, hy]]
      go_enter Try.func35, Try.ntmps35
      go_wp2
      go_ret
      exact ⟨rfl, HS.out.1, HS.out.2⟩
/-- the key ahead of this place. -/
def aheadK (l : List Int) (k : Nat) : Int := if k = 0 then -1 else l.getD (k - 1) 0
set_option maxHeartbeats 800000 in
set_option maxRecDepth 20000 in
theorem index_nr (B g : Nat) (ao : Option Addr) (cap : Nat) (l : List Int) (w : World) (hl : l.length ≤ 140737488355328) (hBg : B ≤ g) (hlt0 : ∀ b off, ao = some ⟨b, off, none⟩ → l ≠ [] → b < B) (hV : IntsV w (.slice ao l.length cap) l) (hc : CellIs w g (-1)) :
    Calls Try.prog 44 #[.slice ao l.length cap, .func (.func 35) #[] #[.pointer (some ⟨g, 0, none⟩)]] w fun e w' => ∃ q : Int, e = .returned (.int .i64 q) ∧ Below B w w' ∧ (nrB (-1) l = true → 0 ≤ q) ∧ (nrB (-1) l = false → q = -1) := by
  obtain ⟨n, hn⟩ : ∃ n, l.length = n := ⟨_, rfl⟩
  have H : Hid (IntsV w (.slice ao l.length cap) l) := hV
  rw [hn] at hl H ⊢
  have HN : Hid (l.length = n) := hn
  have HC : Hid (CellIs w g (aheadK l 0)) := hc
  have H0 : Hid (∀ b off, ao = some ⟨b, off, none⟩ → l ≠ [] → b < B) := hlt0
  clear hV hn hc hlt0
  go_enter Try.func44, Try.ntmps44
  go_wp2
  go_loopw [8] (fun i wr => ∃ k : Nat, k ≤ n ∧ i = .int .i64 k ∧ Hid (nrB (aheadK l k) (l.drop k) = nrB (-1) l) ∧ Hid (CellIs wr g (aheadK l k)) ∧ Below B w wr) (fun i _ => n - (intOf i).toNat)
  case atStart => exact ⟨0, Nat.zero_le _, rfl, rfl, HC, Below.refl _ _⟩
  case round =>
    obtain ⟨k, hk, rfl, HT, HC1, hB⟩ := hrel
    by_cases hlt : k < n
    · have hlt2 : k < l.length := by rw [HN.out]; exact hlt
      obtain ⟨b, off, rfl, hb, _, hat⟩ := H.out.at hlt2
      have hbB : b < B := H0.out b off rfl (by rintro rfl; simp at hlt2)
      have c1 := (hB.cell (p := ⟨b, off + k, none⟩) hbB).trans (hat k hlt2)
      have hou := nr1_any g (l.getD k 0) (aheadK l k) wr HC1.out
      have HS : Hid (nrB (-1) l = ((decide (l.getD k 0 ≤ aheadK l k) || decide (2147483647 < l.getD k 0)) || nrB (l.getD k 0) (l.drop (k + 1)))) := by show _ = _; rw [← HT.out, drop_get hlt2 0]; rfl
      have HE : Hid (aheadK l (k + 1) = l.getD k 0) := by show _ = _; simp [aheadK]
      clear hat HT HC1 hbB HC
      generalize hx : l.getD k 0 = x at *
      clear hx
      generalize (decide (x ≤ aheadK l k) || decide (2147483647 < x)) = o at *
      cases o
      · go_wp2_with (refine hou.mono ?_; rintro e w1 ⟨rfl, hb1, hc1⟩)
        go_roundw
        case rel => exact ⟨k + 1, by omega, by go_num, by rw [HE.out, HS.out]; rfl, by rw [HE.out]; exact hc1, hB.trans (hb1.mono hBg)⟩
        case measure => simp [intOf]; omega
      · go_wp2_with (refine hou.mono ?_; rintro e w1 ⟨rfl, hb1, hc1⟩)
        go_ret
        exact ⟨_, rfl, hB.trans (hb1.mono hBg), fun _ => by omega, fun h => by rw [HS.out] at h; simp at h⟩
    · obtain rfl : k = n := by omega
      have HT' : Hid (nrB (-1) l = false) := by show _ = _; rw [← HT.out, List.drop_eq_nil_of_le (by rw [HN.out]; omega)]; rfl
      clear HT
      go_wp2
      go_ret
      exact ⟨-1, rfl, hB, fun h => by rw [HT'.out] at h; simp at h, fun _ => rfl⟩
set_option maxRecDepth 20000 in
theorem containsN_any (B g : Nat) (ao : Option Addr) (cap : Nat) (l : List Int) (w : World) (hl : l.length ≤ 140737488355328) (hBg : B ≤ g) (hlt0 : ∀ b off, ao = some ⟨b, off, none⟩ → l ≠ [] → b < B) (hV : IntsV w (.slice ao l.length cap) l) (hc : CellIs w g (-1)) :
    Calls Try.prog 34 #[.slice ao l.length cap, .func (.func 35) #[] #[.pointer (some ⟨g, 0, none⟩)]] w fun e w' => e = .returned (.bool (nrB (-1) l)) ∧ Below B w w' := by
  have hx := index_nr B g ao cap l w hl hBg hlt0 hV hc
  generalize l.length = n at *
  generalize nrB (-1) l = o at *
  clear hV hlt0 hc
  cases o
  all_goals
    go_enter Try.func34, Try.ntmps34
    go_wp2_with (go_at_call 44; refine hx.mono ?_; rintro e w1 ⟨q, rfl, hb1, h1, h2⟩; first | (obtain rfl := h2 rfl) | (have h3 := h1 rfl))
    go_ret
    exact ⟨by first | rfl | trivial, hb1⟩
set_option maxRecDepth 20000 in
/-- THE CONTRACT OF notRising. -/
theorem notRising_any (ao : Option Addr) (cap : Nat) (l : List Int) (w : World) (hl : l.length ≤ 140737488355328) (hV : IntsV w (.slice ao l.length cap) l) :
    Calls Try.prog 25 #[.slice ao l.length cap] w fun e w' => e = .returned (.bool (nrB (-1) l)) ∧ Below w.heap.size w w' := by
  have hb0 : Below w.heap.size w (w.alloc (.cells #[.int .i64 (-1)] 3)) := (Below.refl _ _).alloc (Nat.le_refl _) _
  have hcc : CellIs (w.alloc (.cells #[.int .i64 (-1)] 3)) w.heap.size (-1) := ⟨by simp, by simp [go_sem], by simp [go_sem]⟩
  have hx := containsN_any w.heap.size w.heap.size ao cap l _ hl (Nat.le_refl _) (fun b off h hne => by subst h; obtain ⟨b', off', e, h2, _⟩ := hV.at (List.length_pos_iff.2 hne); injection e with e; injection e with e; subst e; exact h2) (hV.below hb0) hcc
  have HB : Hid (∀ w1, Below w.heap.size (w.alloc (.cells #[.int .i64 (-1)] 3)) w1 → Below w.heap.size w w1) := fun w1 h => hb0.trans h
  generalize l.length = n at *
  clear hV hb0 hcc
  go_enter Try.func25, Try.ntmps25
  go_wp2_with (go_at_call 34; refine hx.mono ?_; rintro e w1 ⟨rfl, hb1⟩)
  go_ret
  exact ⟨rfl, HB.out _ hb1⟩

/-! ### is a key in a list? -/
def KeyB (x : Int) (y : Int) : Bool := decide (x = y)
set_option maxHeartbeats 800000 in
set_option maxRecDepth 20000 in
theorem index_key (ao : Option Addr) (cap : Nat) (l : List Int) (x : Int) (w : World) (hl : l.length ≤ 140737488355328) (hV : IntsV w (.slice ao l.length cap) l) :
    Calls Try.prog 36 #[.slice ao l.length cap, .int .i64 x] w fun e w' => ∃ q : Int, e = .returned (.int .i64 q) ∧ w' = w ∧ (x ∈ l → 0 ≤ q) ∧ (x ∉ l → q = -1) := by
  obtain ⟨n, hn⟩ : ∃ n, l.length = n := ⟨_, rfl⟩
  have H : Hid (IntsV w (.slice ao l.length cap) l) := hV
  rw [hn] at hl H ⊢
  have HN : Hid (l.length = n) := hn
  clear hV hn
  go_enter Try.func36, Try.ntmps36
  go_wp2
  go_loopw [8] (fun i wr => ∃ k : Nat, k ≤ n ∧ i = .int .i64 k ∧ Hid (x ∉ l.take k) ∧ wr = w) (fun i _ => n - (intOf i).toNat)
  case atStart => exact ⟨0, Nat.zero_le _, rfl, by show ¬ _; simp, rfl⟩
  case round =>
    obtain ⟨k, hk, rfl, HT, rfl⟩ := hrel
    by_cases hlt : k < n
    · have hlt2 : k < l.length := by rw [HN.out]; exact hlt
      obtain ⟨b, off, rfl, hb, _, hat⟩ := H.out.at hlt2
      have c1 := hat k hlt2
      have HS : Hid (x ≠ l.getD k 0 → x ∉ l.take (k + 1)) := fun h hm => by
        rw [take_get hlt2 0] at hm
        rcases List.mem_append.1 hm with h2 | h2
        · exact HT.out h2
        · simp at h2; exact h h2
      have HM : Hid (l.getD k 0 ∈ l) := getD_mem hlt2 0
      clear hat HT
      generalize l.getD k 0 = y at *
      by_cases hxy : x = y
      · subst hxy
        go_wp2
        go_ret
        exact ⟨_, rfl, rfl, fun _ => by omega, fun h => absurd HM.out h⟩
      · have hs := HS.out hxy
        have HS2 : Hid (x ∉ l.take (k + 1)) := hs
        clear hs HS HM
        go_wp2
        go_roundw
        case rel => exact ⟨k + 1, by omega, by go_num, HS2, by trivial⟩
        case measure => simp [intOf]; omega
    · obtain rfl : k = n := by omega
      have HT' : Hid (x ∉ l) := by have h := HT.out; rw [List.take_of_length_le (by rw [HN.out]; omega)] at h; exact h
      clear HT
      go_wp2
      go_ret
      exact ⟨-1, rfl, rfl, fun h => absurd h HT'.out, fun _ => rfl⟩
set_option maxRecDepth 20000 in
theorem containsK_any (ao : Option Addr) (cap : Nat) (l : List Int) (x : Int) (w : World) (hl : l.length ≤ 140737488355328) (hV : IntsV w (.slice ao l.length cap) l) :
    Calls Try.prog 26 #[.slice ao l.length cap, .int .i64 x] w fun e w' => e = .returned (.bool (decide (x ∈ l))) ∧ w' = w := by
  have hx := index_key ao cap l x w hl hV
  generalize l.length = n at *
  clear hV
  by_cases hm : x ∈ l
  · rw [show decide (x ∈ l) = true by simp [hm]]
    have hx2 : Calls Try.prog 36 #[.slice ao n cap, .int .i64 x] w fun e w' => ∃ q : Int, e = .returned (.int .i64 q) ∧ w' = w ∧ 0 ≤ q := hx.mono fun e w' ⟨q, h1, h2, h3, _⟩ => ⟨q, h1, h2, h3 hm⟩
    clear hx hm
    go_enter Try.func26, Try.ntmps26
    go_wp2_with (go_at_call 36; refine hx2.mono ?_; rintro e w1 ⟨q, rfl, rfl, h3⟩)
    go_ret
    exact ⟨by first | rfl | trivial, rfl⟩
  · rw [show decide (x ∈ l) = false by simp [hm]]
    have hx2 : Calls Try.prog 36 #[.slice ao n cap, .int .i64 x] w fun e w' => e = .returned (.int .i64 (-1)) ∧ w' = w := hx.mono fun e w' ⟨q, h1, h2, _, h3⟩ => ⟨by rw [h1, h3 hm], h2⟩
    clear hx hm
    go_enter Try.func26, Try.ntmps26
    go_wp2_with (go_at_call 36; refine hx2.mono ?_; rintro e w1 ⟨rfl, rfl⟩)
    go_ret
    exact ⟨by first | rfl | trivial, rfl⟩

/-! ### is a key in a run? -/
set_option maxRecDepth 20000 in
theorem h1_any (g : Nat) (x : Int) (ao : Option Addr) (cap : Nat) (r : List Int) (w : World) (hl : r.length ≤ 100000) (hs : r.Pairwise (· ≤ ·)) (hV : IntsV w (.slice ao r.length cap) r) (h : CellIs w g x) :
    Calls Try.prog 28 #[.slice ao r.length cap, .pointer (some ⟨g, 0, none⟩)] w fun e w' => e = .returned (.bool (decide (x ∈ r))) ∧ ∃ q, w' = w.drewN q := by
  obtain ⟨h0, h1, h2⟩ := h
  have hb : Calls Try.prog 29 #[.slice ao r.length cap, .int .i64 x] w fun e w' => ∃ p : Int, e = .returned (.tuple #[.int .i64 p, .bool (decide (x ∈ r))]) ∧ ∃ q, w' = w.drewN q := by
    by_cases hr : r = []
    · subst hr
      exact (slices_BinarySearch_int_empty ao cap x w).mono fun e w' ⟨h1, h2⟩ => ⟨0, by rw [h1]; simp, 0, h2⟩
    · obtain ⟨b, off, rfl, _, _, hat⟩ := hV.at (List.length_pos_iff.2 hr)
      refine (slices_BinarySearch_int b off r.length cap r x w (Nat.le_refl _) (by omega) hat (by rw [List.take_length]; exact hs)).mono fun e w' ⟨h1, h2⟩ => ⟨((r.countP (· < x) : Nat) : Int), by rw [h1, List.take_length, List.contains_eq_mem], h2⟩
  generalize decide (x ∈ r) = o at *
  generalize r.length = n at *
  clear hV hs
  go_enter Try.func28, Try.ntmps28
  go_wp2_with (go_at_call 29; refine hb.mono ?_; rintro e w1 ⟨p, rfl, q, rfl⟩)
  go_ret
  exact ⟨rfl, q, rfl⟩
def hasB (x : Int) (r : List Int) : Bool := decide (x ∈ r)
set_option maxHeartbeats 800000 in
set_option maxRecDepth 20000 in
theorem index_has (g : Nat) (x : Int) (ao : Option Addr) (cap : Nat) (rs : List (List Int)) (w : World) (hl : rs.length ≤ 100000) (hr : ∀ r ∈ rs, r.length ≤ 100000 ∧ r.Pairwise (· ≤ ·)) (hV : LisV w (.slice ao rs.length cap) rs) (hc : CellIs w g x) :
    Calls Try.prog 37 #[.slice ao rs.length cap, .func (.func 28) #[] #[.pointer (some ⟨g, 0, none⟩)]] w fun e w' => ∃ q : Int, e = .returned (.int .i64 q) ∧ Below w.heap.size w w' ∧ (rs.any (hasB x) = true → 0 ≤ q) ∧ (rs.any (hasB x) = false → q = -1) := by
  obtain ⟨n, hn⟩ : ∃ n, rs.length = n := ⟨_, rfl⟩
  have H : Hid (∀ w1, Below w.heap.size w w1 → LisV w1 (.slice ao rs.length cap) rs) := fun w1 h => hV.below h
  have HC : Hid (∀ w1, Below w.heap.size w w1 → CellIs w1 g x) := fun w1 h => hc.later h
  have HR : Hid (∀ r ∈ rs, r.length ≤ 100000 ∧ r.Pairwise (· ≤ ·)) := hr
  rw [hn] at hl H ⊢
  have HN : Hid (rs.length = n) := hn
  clear hV hn hc hr
  go_enter Try.func37, Try.ntmps37
  go_wp2
  go_loopw [8] (fun i wr => ∃ k : Nat, k ≤ n ∧ i = .int .i64 k ∧ (rs.take k).any (hasB x) = false ∧ Below w.heap.size w wr) (fun i _ => n - (intOf i).toNat)
  case atStart => exact ⟨0, Nat.zero_le _, rfl, rfl, Below.refl _ _⟩
  case round =>
    obtain ⟨k, hk, rfl, HT, hB⟩ := hrel
    by_cases hlt : k < n
    · have hlt2 : k < rs.length := by rw [HN.out]; exact hlt
      obtain ⟨b, off, rfl, _, u, c1, hu⟩ := (H.out wr hB).at hlt2
      obtain ⟨uo, uc, rfl⟩ := hu.shape
      obtain ⟨hr1, hr2⟩ := HR.out _ (getD_mem hlt2 [])
      have hou := h1_any g x uo uc (rs.getD k []) wr hr1 hr2 hu (HC.out wr hB)
      have HS : Hid ((rs.take (k + 1)).any (hasB x) = hasB x (rs.getD k [])) := by
        show _ = _
        rw [take_get hlt2 [], List.any_append, HT]
        simp
      have HAn : Hid (hasB x (rs.getD k []) = true → rs.any (hasB x) = true) := fun h => List.any_eq_true.2 ⟨rs.getD k [], getD_mem hlt2 [], h⟩
      have hou2 : Calls Try.prog 28 #[.slice uo (rs.getD k []).length uc, .pointer (some ⟨g, 0, none⟩)] wr fun e w' => e = .returned (.bool (hasB x (rs.getD k []))) ∧ ∃ q, w' = wr.drewN q := hou
      clear HT hu hou hr1 hr2
      generalize (rs.getD k []).length = m at *
      generalize hasB x (rs.getD k []) = o at *
      cases o
      · go_wp2_with (refine hou2.mono ?_; rintro e w1 ⟨rfl, q1, rfl⟩)
        go_roundw
        case rel => exact ⟨k + 1, by omega, by go_num, HS.out, below_drewN hB _⟩
        case measure => simp [intOf]; omega
      · go_wp2_with (refine hou2.mono ?_; rintro e w1 ⟨rfl, q1, rfl⟩)
        go_ret
        exact ⟨_, rfl, below_drewN hB _, fun _ => by omega, fun h => by have := HAn.out (by trivial); rw [this] at h; simp at h⟩
    · obtain rfl : k = n := by omega
      have hall : rs.take k = rs := by rw [List.take_of_length_le]; rw [HN.out]; omega
      rw [hall] at HT
      have HT' : Hid (rs.any (hasB x) = false) := HT
      clear HT
      go_wp2
      go_ret
      exact ⟨-1, rfl, hB, fun h => by rw [HT'.out] at h; simp at h, fun _ => rfl⟩
set_option maxRecDepth 20000 in
theorem containsH_any (g : Nat) (x : Int) (ao : Option Addr) (cap : Nat) (rs : List (List Int)) (w : World) (hl : rs.length ≤ 100000) (hr : ∀ r ∈ rs, r.length ≤ 100000 ∧ r.Pairwise (· ≤ ·)) (hV : LisV w (.slice ao rs.length cap) rs) (hc : CellIs w g x) :
    Calls Try.prog 27 #[.slice ao rs.length cap, .func (.func 28) #[] #[.pointer (some ⟨g, 0, none⟩)]] w fun e w' => e = .returned (.bool (rs.any (hasB x))) ∧ Below w.heap.size w w' := by
  have hx := index_has g x ao cap rs w hl hr hV hc
  generalize rs.length = n at *
  generalize rs.any (hasB x) = o at *
  clear hV hr hc
  cases o
  all_goals
    go_enter Try.func27, Try.ntmps27
    go_wp2_with (go_at_call 37; refine hx.mono ?_; rintro e w1 ⟨q, rfl, hb1, h1, h2⟩; first | (obtain rfl := h2 rfl) | (have h3 := h1 rfl))
    go_ret
    exact ⟨by first | rfl | trivial, hb1⟩
end Go.Proofs.Ytncfkpfbjenpjaa
