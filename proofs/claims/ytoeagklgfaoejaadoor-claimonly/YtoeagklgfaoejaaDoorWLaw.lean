/-
  The laws that word's table hands out: the contracts of after, law and its functions.
-/
import Derived.Test.YtoeagklgfaoejaaDoorLetters
import Derived.Test.YtoeagklgfaoejaaDoorLogicT
import Derived.Test.YtoeagklgfaoejaaDoorWordM
import Derived.Deep.RegionHeld3
namespace Go.Proofs.YtoeagklgfaoejaaDoor
open Go.ChangeShapes Go.WideShapes Go.ChangeAt Go.RowKit Go.Deep
open Terms

/-- what the laws stand on: the boxes of the table and of the place, and what lies behind them. -/
structure TabIn (w : World) (bt bp b off n cap B : Nat) (aao : Option Addr) (an ac lb m lcap s R p : Nat) (l : List (Int × Int)) (ls : List (List Bool)) (h : Nat → Nat → Bool) : Prop where
  c0 : w.cell? ⟨bt, 0, none⟩ = some (.slice (some ⟨b, off, none⟩) n cap)
  c1 : w.cell? ⟨bt, 1, none⟩ = some (.slice (some ⟨B, 0, none⟩) n n)
  c2 : w.cell? ⟨bt, 2, none⟩ = some (.slice aao an ac)
  c3 : w.cell? ⟨bt, 3, none⟩ = some (.slice (some ⟨lb, 0, none⟩) m lcap)
  c4 : w.cell? ⟨bt, 4, none⟩ = some (.int .i64 (s : Int))
  c5 : w.cell? ⟨bt, 5, none⟩ = some (.slice (some ⟨R, 0, none⟩) n n)
  cp : w.cell? ⟨bp, 0, none⟩ = some (.int .i64 (p : Int))
  ends : ∀ j, j < n → w.cell? ⟨B, j, none⟩ = some (.int .i64 (endAt (l.map Prod.fst) j : Int))
  lets : LettersV w (.slice (some ⟨lb, 0, none⟩) m lcap) ls
  rows : ∀ q, p < q → q < n → ∃ rb ro rc, w.cell? ⟨R, q, none⟩ = some (.slice (some ⟨rb, ro, none⟩) m rc) ∧ rb < w.heap.size ∧ ∀ j, j < m → w.cell? ⟨rb, ro + j, none⟩ = some (.bool (h q j))
  hbt : bt < w.heap.size
  hbp : bp < w.heap.size
  hB : B < w.heap.size
  hR : R < w.heap.size
  hm : ls.length = m
  hn : n ≤ 60
  hm24 : m ≤ 24
  hs : s < m
theorem TabIn.below {w w' : World} {bt bp b off n cap B : Nat} {aao : Option Addr} {an ac lb m lcap s R p : Nat} {l : List (Int × Int)} {ls : List (List Bool)} {h : Nat → Nat → Bool} (t : TabIn w bt bp b off n cap B aao an ac lb m lcap s R p l ls h) (hb : Below w.heap.size w w') : TabIn w' bt bp b off n cap B aao an ac lb m lcap s R p l ls h :=
  ⟨(hb.cell (p := ⟨bt, 0, none⟩) t.hbt).trans t.c0, (hb.cell (p := ⟨bt, 1, none⟩) t.hbt).trans t.c1, (hb.cell (p := ⟨bt, 2, none⟩) t.hbt).trans t.c2, (hb.cell (p := ⟨bt, 3, none⟩) t.hbt).trans t.c3, (hb.cell (p := ⟨bt, 4, none⟩) t.hbt).trans t.c4, (hb.cell (p := ⟨bt, 5, none⟩) t.hbt).trans t.c5, (hb.cell (p := ⟨bp, 0, none⟩) t.hbp).trans t.cp, fun j hj => (hb.cell (p := ⟨B, j, none⟩) t.hB).trans (t.ends j hj), t.lets.below hb, fun q h1 h2 => by
    obtain ⟨rb, ro, rc, e1, e2, e3⟩ := t.rows q h1 h2
    exact ⟨rb, ro, rc, (hb.cell (p := ⟨R, q, none⟩) t.hR).trans e1, Nat.lt_of_lt_of_le e2 hb.size, fun j hj => (hb.cell (p := ⟨rb, ro + j, none⟩) e2).trans (e3 j hj)⟩,
    Nat.lt_of_lt_of_le t.hbt hb.size, Nat.lt_of_lt_of_le t.hbp hb.size, Nat.lt_of_lt_of_le t.hB hb.size, Nat.lt_of_lt_of_le t.hR hb.size, t.hm, t.hn, t.hm24, t.hs⟩

set_option maxRecDepth 20000 in
theorem first_w (w : World) (bt bp b off n cap B : Nat) (aao : Option Addr) (an ac lb m lcap s R p : Nat) (l : List (Int × Int)) (ls : List (List Bool)) (h : Nat → Nat → Bool) (mo : Nat) (hT : TabIn w bt bp b off n cap B aao an ac lb m lcap s R p l ls h) (hp : p + 1 < n) (hmo : mo < m) :
    Calls Tryd.prog 36 #[.int .i64 (mo : Int), .pointer (some ⟨bt, 0, none⟩), .pointer (some ⟨bp, 0, none⟩)] w fun e w' => e = .returned (.bool (h (p + 1) mo)) ∧ w' = w := by
  obtain ⟨rb, ro, rc, e1, e2, e3⟩ := hT.rows (p + 1) (by omega) hp
  have e4 := e3 mo hmo
  have c5 := hT.c5
  have cp := hT.cp
  have hn := hT.hn
  have hm := hT.hm24
  generalize h (p + 1) mo = x at *
  clear e3 hT
  go_enter Tryd.func36, Tryd.ntmps36
  go_wp2_with fail
  go_ret
  exact ⟨rfl, rfl⟩

set_option maxRecDepth 20000 in
theorem second_w (w : World) (bt bp b off n cap B : Nat) (aao : Option Addr) (an ac lb m lcap s R p : Nat) (l : List (Int × Int)) (ls : List (List Bool)) (h : Nat → Nat → Bool) (mo : Nat) (hT : TabIn w bt bp b off n cap B aao an ac lb m lcap s R p l ls h) (hp : p + 1 < n) (hs1 : p < sec l p) (hs2 : sec l p < n) (hmo : mo < m) :
    Calls Tryd.prog 37 #[.int .i64 (mo : Int), .pointer (some ⟨bt, 0, none⟩), .pointer (some ⟨bp, 0, none⟩)] w fun e w' => e = .returned (.bool (h (sec l p) mo)) ∧ ∃ q, w' = w.drewN q := by
  obtain ⟨rb, ro, rc, e1, e2, e3⟩ := hT.rows (sec l p) hs1 hs2
  have e4 := e3 mo hmo
  have c5 := hT.c5
  have c1 := hT.c1
  have cp := hT.cp
  have hn := hT.hn
  have hm := hT.hm24
  have ce : w.cell? ⟨B, p + 1, none⟩ = some (.int .i64 (sec l p : Int)) := hT.ends (p + 1) hp
  generalize h (sec l p) mo = x at *
  generalize sec l p = sn at *
  clear e3 hT
  go_enter Tryd.func37, Tryd.ntmps37
  go_wp2_with fail
  go_quiet (fail)
  go_wp2_with fail
  go_ret
  exact ⟨rfl, _, rfl⟩

set_option maxRecDepth 20000 in
theorem prop_w (w : World) (bt bp b off n cap B : Nat) (aao : Option Addr) (an ac lb m lcap s R p : Nat) (l : List (Int × Int)) (ls : List (List Bool)) (h : Nat → Nat → Bool) (bo : Nat) (v : Int) (x : Bool) (mo : Nat) (hT : TabIn w bt bp b off n cap B aao an ac lb m lcap s R p l ls h) (hmo : mo < m) (ho : w.cell? ⟨bo, 1, none⟩ = some (.int .i64 v)) (hv0 : 0 ≤ v) (hv : v < ((ls.getD mo []).length : Int)) :
    Calls Tryd.prog 38 #[.int .i64 (mo : Int), .bool x, .pointer (some ⟨bt, 0, none⟩), .pointer (some ⟨bo, 0, none⟩)] w fun e w' => e = .returned (.bool ((ls.getD mo []).getD v.toNat false)) ∧ ∃ q, w' = w.drewN q := by
  obtain ⟨lb', lo, e0, hlb, u, hcu, hbu⟩ := hT.lets.at (i := mo) (by rw [hT.hm]; exact hmo)
  obtain ⟨rfl, rfl⟩ : lb = lb' ∧ 0 = lo := by simpa using e0
  obtain ⟨uo, uc, rfl, hu⟩ := hbu
  obtain ⟨ub, uoff, rfl, hubl, hat⟩ := hu (by intro hh; rw [hh] at hv; simp at hv; omega)
  obtain ⟨vn, rfl⟩ : ∃ vn : Nat, v = vn := ⟨v.toNat, by omega⟩
  have cu := hat vn (by omega)
  have c3 := hT.c3
  have hm := hT.hm24
  simp only [Int.toNat_natCast, Nat.zero_add] at *
  generalize (ls.getD mo []).getD vn false = y at *
  generalize (ls.getD mo []).length = xn at *
  have hvn : vn < xn := by omega
  clear hat hu hT e0
  go_enter Tryd.func38, Tryd.ntmps38
  go_wp2_with fail
  go_quiet (fail)
  go_wp2_with fail
  go_ret
  exact ⟨rfl, _, rfl⟩

set_option maxRecDepth 20000 in
theorem after_any (b off n cap B : Nat) (aao : Option Addr) (an ac lb m lcap s R : Nat) (now : Nat) (w : World) (hm : m ≤ 24) (hnow : now < m) :
    Calls Tryd.prog 35 #[.agg #[.slice (some ⟨b, off, none⟩) n cap, .slice (some ⟨B, 0, none⟩) n n, .slice aao an ac, .slice (some ⟨lb, 0, none⟩) m lcap, .int .i64 (s : Int), .slice (some ⟨R, 0, none⟩) n n], .int .i64 (now : Int)] w fun e w' => e = .returned (.int .i64 ((if now = m - 1 then s else now + 1 : Nat) : Int)) ∧ Below w.heap.size w w' := by
  have hA : ∀ o, Below w.heap.size w (w.alloc o) := fun o => (Below.refl _ _).alloc (Nat.le_refl _) o
  by_cases hl : now = m - 1
  · rw [if_pos hl]
    have hl' : (now : Int) = (m : Int) - 1 := by omega
    rw [hl']
    clear hl hl' hnow
    go_enter Tryd.func35, Tryd.ntmps35
    go_wp2_with fail
    go_ret
    exact ⟨rfl, hA _⟩
  · rw [if_neg hl]
    have hl' : ¬ (now : Int) = (m : Int) - 1 := by omega
    clear hl
    go_enter Tryd.func35, Tryd.ntmps35
    go_wp2_with fail
    go_ret
    exact ⟨by simp, hA _⟩

/-- A LAW, HANDED OUT AS A FUNCTION: at each moment it says u, or v and what it is told of the next moment. -/
def LawAt (w : World) (F : Value) (m : Nat) (u v : Nat → Bool) : Prop := ∃ f caps, F = .func (.func f) #[] caps ∧ (∀ args w, (callFunc f args).run Tryd.prog w = .ok (.enter f args) w) ∧ ∀ w', Below w.heap.size w w' → ∀ (now : Nat) (x : Bool), now < m → Calls Tryd.prog f (#[.int .i64 (now : Int), .bool x] ++ caps) w' fun e w2 => e = .returned (.bool (u now || (v now && x))) ∧ Below w'.heap.size w' w2

/-- the boxes of the two functions that tell of the parts. -/
structure FunIn (w : World) (bt bp bf bs : Nat) : Prop where
  f1 : w.cell? ⟨bf, 0, none⟩ = some (.func (.func 36) #[] #[.pointer (some ⟨bt, 0, none⟩), .pointer (some ⟨bp, 0, none⟩)])
  f2 : w.cell? ⟨bs, 0, none⟩ = some (.func (.func 37) #[] #[.pointer (some ⟨bt, 0, none⟩), .pointer (some ⟨bp, 0, none⟩)])
  hbf : bf < w.heap.size
  hbs : bs < w.heap.size
theorem FunIn.below {w w' : World} {bt bp bf bs : Nat} (t : FunIn w bt bp bf bs) (hb : Below w.heap.size w w') : FunIn w' bt bp bf bs :=
  ⟨(hb.cell (p := ⟨bf, 0, none⟩) t.hbf).trans t.f1, (hb.cell (p := ⟨bs, 0, none⟩) t.hbs).trans t.f2, Nat.lt_of_lt_of_le t.hbf hb.size, Nat.lt_of_lt_of_le t.hbs hb.size⟩

set_option maxRecDepth 20000 in
theorem law5_w (w : World) (bt bp b off n cap B : Nat) (aao : Option Addr) (an ac lb m lcap s R p : Nat) (l : List (Int × Int)) (ls : List (List Bool)) (h : Nat → Nat → Bool) (bf bs : Nat) (now : Nat) (x : Bool) (hT : TabIn w bt bp b off n cap B aao an ac lb m lcap s R p l ls h) (hF : FunIn w bt bp bf bs) (hp : p + 1 < n) (hnow : now < m) :
    Calls Tryd.prog 40 #[.int .i64 (now : Int), .bool x, .pointer (some ⟨bf, 0, none⟩)] w fun e w' => e = .returned (.bool (!h (p + 1) now)) ∧ w' = w := by
  have hf := first_w w bt bp b off n cap B aao an ac lb m lcap s R p l ls h now hT hp hnow
  have f1 := hF.f1
  generalize h (p + 1) now = y at *
  clear hT hF
  cases y
  all_goals
    go_enter Tryd.func40, Tryd.ntmps40
    go_wp2_with (go_at_call 36; refine hf.mono ?_; rintro e w1 ⟨rfl, hw1⟩; obtain rfl := hw1.symm)
    go_ret
    exact ⟨by first | rfl | simp, rfl⟩

set_option maxRecDepth 20000 in
theorem law9_w (w : World) (bt bp b off n cap B : Nat) (aao : Option Addr) (an ac lb m lcap s R p : Nat) (l : List (Int × Int)) (ls : List (List Bool)) (h : Nat → Nat → Bool) (bf bs : Nat) (now : Nat) (x : Bool) (hT : TabIn w bt bp b off n cap B aao an ac lb m lcap s R p l ls h) (hF : FunIn w bt bp bf bs) (hp : p + 1 < n) (hnow : now < m) :
    Calls Tryd.prog 44 #[.int .i64 (now : Int), .bool x, .pointer (some ⟨bf, 0, none⟩)] w fun e w' => e = .returned (.bool (h (p + 1) now || x)) ∧ w' = w := by
  have hf := first_w w bt bp b off n cap B aao an ac lb m lcap s R p l ls h now hT hp hnow
  have f1 := hF.f1
  generalize h (p + 1) now = y at *
  clear hT hF
  cases y
  all_goals
    go_enter Tryd.func44, Tryd.ntmps44
    go_wp2_with (go_at_call 36; refine hf.mono ?_; rintro e w1 ⟨rfl, hw1⟩; obtain rfl := hw1.symm)
    go_ret
    exact ⟨by first | rfl | simp, rfl⟩

set_option maxRecDepth 20000 in
theorem law10_w (w : World) (bt bp b off n cap B : Nat) (aao : Option Addr) (an ac lb m lcap s R p : Nat) (l : List (Int × Int)) (ls : List (List Bool)) (h : Nat → Nat → Bool) (bf bs : Nat) (now : Nat) (x : Bool) (hT : TabIn w bt bp b off n cap B aao an ac lb m lcap s R p l ls h) (hF : FunIn w bt bp bf bs) (hp : p + 1 < n) (hnow : now < m) :
    Calls Tryd.prog 45 #[.int .i64 (now : Int), .bool x, .pointer (some ⟨bf, 0, none⟩)] w fun e w' => e = .returned (.bool (h (p + 1) now && x)) ∧ w' = w := by
  have hf := first_w w bt bp b off n cap B aao an ac lb m lcap s R p l ls h now hT hp hnow
  have f1 := hF.f1
  generalize h (p + 1) now = y at *
  clear hT hF
  cases y
  all_goals
    go_enter Tryd.func45, Tryd.ntmps45
    go_wp2_with (go_at_call 36; refine hf.mono ?_; rintro e w1 ⟨rfl, hw1⟩; obtain rfl := hw1.symm)
    go_ret
    exact ⟨by first | rfl | simp, rfl⟩

set_option maxHeartbeats 800000 in
set_option maxRecDepth 20000 in
theorem law6_w (w : World) (bt bp b off n cap B : Nat) (aao : Option Addr) (an ac lb m lcap s R p : Nat) (l : List (Int × Int)) (ls : List (List Bool)) (h : Nat → Nat → Bool) (bf bs : Nat) (now : Nat) (x : Bool) (hT : TabIn w bt bp b off n cap B aao an ac lb m lcap s R p l ls h) (hF : FunIn w bt bp bf bs) (hp : p + 1 < n) (hs1 : p < sec l p) (hs2 : sec l p < n) (hnow : now < m) :
    Calls Tryd.prog 41 #[.int .i64 (now : Int), .bool x, .pointer (some ⟨bf, 0, none⟩), .pointer (some ⟨bs, 0, none⟩)] w fun e w' => e = .returned (.bool (h (p + 1) now && h (sec l p) now)) ∧ ∃ q, w' = w.drewN q := by
  have hf := fun q => first_w (w.drewN q) bt bp b off n cap B aao an ac lb m lcap s R p l ls h now (hT.below (below_drewN (Below.refl _ _) q)) hp hnow
  have hs := fun q => second_w (w.drewN q) bt bp b off n cap B aao an ac lb m lcap s R p l ls h now (hT.below (below_drewN (Below.refl _ _) q)) hp hs1 hs2 hnow
  have f1 := hF.f1
  have f2 := hF.f2
  generalize h (p + 1) now = y at *
  generalize h (sec l p) now = z at *
  clear hT hF
  cases y <;> cases z
  all_goals
    go_enter Tryd.func41, Tryd.ntmps41
    go_wp2_with (first | (go_at_call 36; first | (refine (hf 0).mono ?_; rintro e w1 ⟨rfl, hw1⟩; obtain rfl := hw1.symm) | (refine (hf _).mono ?_; rintro e w1 ⟨rfl, hw1⟩; obtain rfl := hw1.symm)) | (go_at_call 37; first | (refine (hs 0).mono ?_; rintro e w1 ⟨rfl, q1, rfl⟩) | (refine (hs _).mono ?_; rintro e w1 ⟨rfl, q1, rfl⟩)))
    go_ret
    exact ⟨by first | rfl | simp, by first | exact ⟨0, rfl⟩ | exact ⟨_, rfl⟩ | exact ⟨_, World.drewN_drewN _ _ _⟩ | (exact ⟨_, by simp only [World.drewN_drewN]; rfl⟩)⟩

set_option maxHeartbeats 800000 in
set_option maxRecDepth 20000 in
theorem law7_w (w : World) (bt bp b off n cap B : Nat) (aao : Option Addr) (an ac lb m lcap s R p : Nat) (l : List (Int × Int)) (ls : List (List Bool)) (h : Nat → Nat → Bool) (bf bs : Nat) (now : Nat) (x : Bool) (hT : TabIn w bt bp b off n cap B aao an ac lb m lcap s R p l ls h) (hF : FunIn w bt bp bf bs) (hp : p + 1 < n) (hs1 : p < sec l p) (hs2 : sec l p < n) (hnow : now < m) :
    Calls Tryd.prog 42 #[.int .i64 (now : Int), .bool x, .pointer (some ⟨bf, 0, none⟩), .pointer (some ⟨bs, 0, none⟩)] w fun e w' => e = .returned (.bool (h (p + 1) now || h (sec l p) now)) ∧ ∃ q, w' = w.drewN q := by
  have hf := fun q => first_w (w.drewN q) bt bp b off n cap B aao an ac lb m lcap s R p l ls h now (hT.below (below_drewN (Below.refl _ _) q)) hp hnow
  have hs := fun q => second_w (w.drewN q) bt bp b off n cap B aao an ac lb m lcap s R p l ls h now (hT.below (below_drewN (Below.refl _ _) q)) hp hs1 hs2 hnow
  have f1 := hF.f1
  have f2 := hF.f2
  generalize h (p + 1) now = y at *
  generalize h (sec l p) now = z at *
  clear hT hF
  cases y <;> cases z
  all_goals
    go_enter Tryd.func42, Tryd.ntmps42
    go_wp2_with (first | (go_at_call 36; first | (refine (hf 0).mono ?_; rintro e w1 ⟨rfl, hw1⟩; obtain rfl := hw1.symm) | (refine (hf _).mono ?_; rintro e w1 ⟨rfl, hw1⟩; obtain rfl := hw1.symm)) | (go_at_call 37; first | (refine (hs 0).mono ?_; rintro e w1 ⟨rfl, q1, rfl⟩) | (refine (hs _).mono ?_; rintro e w1 ⟨rfl, q1, rfl⟩)))
    go_ret
    exact ⟨by first | rfl | simp, by first | exact ⟨0, rfl⟩ | exact ⟨_, rfl⟩ | exact ⟨_, World.drewN_drewN _ _ _⟩ | (exact ⟨_, by simp only [World.drewN_drewN]; rfl⟩)⟩

set_option maxHeartbeats 800000 in
set_option maxRecDepth 20000 in
theorem law11_w (w : World) (bt bp b off n cap B : Nat) (aao : Option Addr) (an ac lb m lcap s R p : Nat) (l : List (Int × Int)) (ls : List (List Bool)) (h : Nat → Nat → Bool) (bf bs : Nat) (now : Nat) (x : Bool) (hT : TabIn w bt bp b off n cap B aao an ac lb m lcap s R p l ls h) (hF : FunIn w bt bp bf bs) (hp : p + 1 < n) (hs1 : p < sec l p) (hs2 : sec l p < n) (hnow : now < m) :
    Calls Tryd.prog 46 #[.int .i64 (now : Int), .bool x, .pointer (some ⟨bs, 0, none⟩), .pointer (some ⟨bf, 0, none⟩)] w fun e w' => e = .returned (.bool (h (sec l p) now || (h (p + 1) now && x))) ∧ ∃ q, w' = w.drewN q := by
  have hf := fun q => first_w (w.drewN q) bt bp b off n cap B aao an ac lb m lcap s R p l ls h now (hT.below (below_drewN (Below.refl _ _) q)) hp hnow
  have hs := fun q => second_w (w.drewN q) bt bp b off n cap B aao an ac lb m lcap s R p l ls h now (hT.below (below_drewN (Below.refl _ _) q)) hp hs1 hs2 hnow
  have f1 := hF.f1
  have f2 := hF.f2
  generalize h (p + 1) now = y at *
  generalize h (sec l p) now = z at *
  clear hT hF
  cases y <;> cases z
  all_goals
    go_enter Tryd.func46, Tryd.ntmps46
    go_wp2_with (first | (go_at_call 36; first | (refine (hf 0).mono ?_; rintro e w1 ⟨rfl, hw1⟩; obtain rfl := hw1.symm) | (refine (hf _).mono ?_; rintro e w1 ⟨rfl, hw1⟩; obtain rfl := hw1.symm)) | (go_at_call 37; first | (refine (hs 0).mono ?_; rintro e w1 ⟨rfl, q1, rfl⟩) | (refine (hs _).mono ?_; rintro e w1 ⟨rfl, q1, rfl⟩)))
    go_ret
    exact ⟨by first | rfl | simp, by first | exact ⟨0, rfl⟩ | exact ⟨_, rfl⟩ | exact ⟨_, World.drewN_drewN _ _ _⟩ | (exact ⟨_, by simp only [World.drewN_drewN]; rfl⟩)⟩

set_option maxHeartbeats 800000 in
set_option maxRecDepth 20000 in
theorem law12_w (w : World) (bt bp b off n cap B : Nat) (aao : Option Addr) (an ac lb m lcap s R p : Nat) (l : List (Int × Int)) (ls : List (List Bool)) (h : Nat → Nat → Bool) (bf bs : Nat) (now : Nat) (x : Bool) (hT : TabIn w bt bp b off n cap B aao an ac lb m lcap s R p l ls h) (hF : FunIn w bt bp bf bs) (hp : p + 1 < n) (hs1 : p < sec l p) (hs2 : sec l p < n) (hnow : now < m) :
    Calls Tryd.prog 47 #[.int .i64 (now : Int), .bool x, .pointer (some ⟨bs, 0, none⟩), .pointer (some ⟨bf, 0, none⟩)] w fun e w' => e = .returned (.bool (h (sec l p) now && (h (p + 1) now || x))) ∧ ∃ q, w' = w.drewN q := by
  have hf := fun q => first_w (w.drewN q) bt bp b off n cap B aao an ac lb m lcap s R p l ls h now (hT.below (below_drewN (Below.refl _ _) q)) hp hnow
  have hs := fun q => second_w (w.drewN q) bt bp b off n cap B aao an ac lb m lcap s R p l ls h now (hT.below (below_drewN (Below.refl _ _) q)) hp hs1 hs2 hnow
  have f1 := hF.f1
  have f2 := hF.f2
  generalize h (p + 1) now = y at *
  generalize h (sec l p) now = z at *
  clear hT hF
  cases y <;> cases z
  all_goals
    go_enter Tryd.func47, Tryd.ntmps47
    go_wp2_with (first | (go_at_call 36; first | (refine (hf 0).mono ?_; rintro e w1 ⟨rfl, hw1⟩; obtain rfl := hw1.symm) | (refine (hf _).mono ?_; rintro e w1 ⟨rfl, hw1⟩; obtain rfl := hw1.symm)) | (go_at_call 37; first | (refine (hs 0).mono ?_; rintro e w1 ⟨rfl, q1, rfl⟩) | (refine (hs _).mono ?_; rintro e w1 ⟨rfl, q1, rfl⟩)))
    go_ret
    exact ⟨by first | rfl | simp, by first | exact ⟨0, rfl⟩ | exact ⟨_, rfl⟩ | exact ⟨_, World.drewN_drewN _ _ _⟩ | (exact ⟨_, by simp only [World.drewN_drewN]; rfl⟩)⟩

set_option maxHeartbeats 800000 in
set_option maxRecDepth 20000 in
theorem law8_w (w : World) (bt bp b off n cap B : Nat) (aao : Option Addr) (an ac lb m lcap s R p : Nat) (l : List (Int × Int)) (ls : List (List Bool)) (h : Nat → Nat → Bool) (bf bs : Nat) (now : Nat) (x : Bool) (hT : TabIn w bt bp b off n cap B aao an ac lb m lcap s R p l ls h) (hF : FunIn w bt bp bf bs) (hp : p + 1 < n) (hnow : now < m) :
    Calls Tryd.prog 43 #[.int .i64 (now : Int), .bool x, .pointer (some ⟨bf, 0, none⟩), .pointer (some ⟨bt, 0, none⟩)] w fun e w' => e = .returned (.bool (h (p + 1) (if now = m - 1 then s else now + 1))) ∧ Below w.heap.size w w' := by
  have haf := fun w1 => after_any b off n cap B aao an ac lb m lcap s R now w1 hT.hm24 hnow
  have hlt : (if now = m - 1 then s else now + 1) < m := by have := hT.hs; split <;> omega
  generalize (if now = m - 1 then s else now + 1) = nx at *
  have HF : Hid (∀ w1, Below w.heap.size w w1 → Calls Tryd.prog 36 #[.int .i64 (nx : Int), .pointer (some ⟨bt, 0, none⟩), .pointer (some ⟨bp, 0, none⟩)] w1 fun e w' => e = .returned (.bool (h (p + 1) nx)) ∧ w' = w1) := fun w1 hb => first_w w1 bt bp b off n cap B aao an ac lb m lcap s R p l ls h nx (hT.below hb) hp hlt
  have HS : Hid (∀ w1, Below w.heap.size w w1 → w1.cell? ⟨bf, 0, none⟩ = some (.func (.func 36) #[] #[.pointer (some ⟨bt, 0, none⟩), .pointer (some ⟨bp, 0, none⟩)]) ∧ w1.cell? ⟨bt, 0, none⟩ = some (.slice (some ⟨b, off, none⟩) n cap) ∧ w1.cell? ⟨bt, 1, none⟩ = some (.slice (some ⟨B, 0, none⟩) n n) ∧ w1.cell? ⟨bt, 2, none⟩ = some (.slice aao an ac) ∧ w1.cell? ⟨bt, 3, none⟩ = some (.slice (some ⟨lb, 0, none⟩) m lcap) ∧ w1.cell? ⟨bt, 4, none⟩ = some (.int .i64 (s : Int)) ∧ w1.cell? ⟨bt, 5, none⟩ = some (.slice (some ⟨R, 0, none⟩) n n) ∧ Below w.heap.size w w1) := fun w1 hb => by
    have t := hT.below hb
    exact ⟨(hF.below hb).f1, t.c0, t.c1, t.c2, t.c3, t.c4, t.c5, hb⟩
  have hS := HS.out
  have hB0 : Below w.heap.size w w := Below.refl _ _
  generalize h (p + 1) nx = y at *
  clear hT hF
  go_enter Tryd.func43, Tryd.ntmps43
  go_wp2_with fail
  go_region_held3 (fun w' => w'.cell? ⟨bf, 0, none⟩ = some (.func (.func 36) #[] #[.pointer (some ⟨bt, 0, none⟩), .pointer (some ⟨bp, 0, none⟩)]) ∧ w'.cell? ⟨bt, 0, none⟩ = some (.slice (some ⟨b, off, none⟩) n cap) ∧ w'.cell? ⟨bt, 1, none⟩ = some (.slice (some ⟨B, 0, none⟩) n n) ∧ w'.cell? ⟨bt, 2, none⟩ = some (.slice aao an ac) ∧ w'.cell? ⟨bt, 3, none⟩ = some (.slice (some ⟨lb, 0, none⟩) m lcap) ∧ w'.cell? ⟨bt, 4, none⟩ = some (.int .i64 (s : Int)) ∧ w'.cell? ⟨bt, 5, none⟩ = some (.slice (some ⟨R, 0, none⟩) n n) ∧ Below w.heap.size w w')
    (exact hS _ (by first | exact hB0 | exact hB0.drew | exact hb4))
    (first | (go_at_call 35; refine (haf _).mono ?_; rintro e w4 ⟨rfl, hb4'⟩; have hb4 := hB0.drew.trans (hb4'.mono hB0.drew.size)) | (go_at_call 36; refine (HF.out _ hb4).mono ?_; rintro e w5 ⟨rfl, hw5⟩; obtain rfl := hw5.symm))
  go_wp2_with fail
  go_ret
  exact ⟨rfl, hb4⟩
set_option maxRecDepth 20000 in
theorem law4_w (w : World) (now : Nat) (x : Bool) : Calls Tryd.prog 39 #[.int .i64 (now : Int), .bool x] w fun e w' => e = .returned (.bool true) ∧ w' = w := by
  go_enter Tryd.func39, Tryd.ntmps39
  go_wp2_with fail
  go_ret
  exact ⟨rfl, rfl⟩
set_option maxRecDepth 20000 in
theorem law13_w (w : World) (now : Nat) (x : Bool) : Calls Tryd.prog 48 #[.int .i64 (now : Int), .bool x] w fun e w' => e = .returned (.bool false) ∧ w' = w := by
  go_enter Tryd.func48, Tryd.ntmps48
  go_wp2_with fail
  go_ret
  exact ⟨rfl, rfl⟩
end Go.Proofs.YtoeagklgfaoejaaDoor
