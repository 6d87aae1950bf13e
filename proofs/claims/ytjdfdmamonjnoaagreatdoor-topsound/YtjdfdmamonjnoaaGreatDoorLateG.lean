/-
  Joined out of WFill, WMom, in their order: a claim bears at most so many files.
-/
import Derived.Test.YtjdfdmamonjnoaaGreatDoorLateF
import Derived.Test.YtjdfdmamonjnoaaGreatDoorLateA
namespace Go.Proofs.YtjdfdmamonjnoaaGreatDoor
open Go.ChangeShapes Go.WideShapes Go.ChangeAt Go.RowKit Go.Deep Go.Shelf
open Terms
set_option maxHeartbeats 6400000
set_option maxRecDepth 20000
attribute [local go_sem] Oper.semAt_some
def fiAct (p0 p6 p12 : Value) (r : Nat -> Value) : Act := { tmps := #[p0, r 1, r 2, r 3, r 4, r 5, p6, r 7, r 8, r 9, r 10, r 11, p12, r 13, r 14, r 15, r 16, r 17, r 18, r 19, r 20, r 21, r 22, r 23, r 24, r 25, r 26, r 27, r 28, r 29, r 30, r 31, r 32, r 33, r 34, r 35, r 36, r 37, r 38, r 39, r 40, r 41, r 42, r 43, r 44, r 45, r 46, r 47, r 48, r 49, r 50, r 51, r 52, r 53, r 54, r 55, r 56, r 57, r 58, r 59, r 60, r 61, r 62, r 63, r 64, r 65, r 66, r 67, r 68, r 69, r 70, r 71, r 72, r 73, r 74, r 75, r 76, r 77, r 78, r 79, r 80], defers := [] }
def FiRel (w w3 : World) (b off n cap B : Nat) (aao : Option Addr) (an ac m sn : Nat) (ls : List (List Bool)) (t : Tm) (a' : Act) (Z : World) : Prop :=
  ∃ TB CB ccap RB, (TB ≠ RB /\ CB ≠ RB /\ w3.heap.size <= TB /\ w3.heap.size <= RB /\ TB < Z.heap.size /\ CB < Z.heap.size /\ RB < Z.heap.size) /\ FiJ w w3 b off n cap B aao an ac m sn ls t TB CB ccap RB 0 0 Z /\ ∃ r, a' = fiAct (.slice (some ⟨b, off, none⟩) n cap) (.pointer (some ⟨w.heap.size + 1, 0, none⟩)) (.pointer (some ⟨TB, 0, none⟩)) r
theorem firel_mk {w w3 : World} {b off n cap B : Nat} {aao : Option Addr} {an ac m sn : Nat} {ls : List (List Bool)} {t : Tm} (TB CB ccap RB : Nat) {Z : World} (h1 : TB ≠ RB) (h2 : CB ≠ RB) (h3 : w3.heap.size <= TB) (h4 : w3.heap.size <= RB) (h5 : TB < Z.heap.size) (h6 : CB < Z.heap.size) (h7 : RB < Z.heap.size) (hJ : FiJ w w3 b off n cap B aao an ac m sn ls t TB CB ccap RB 0 0 Z) {r1 r2 r3 r4 r5 r7 r8 r9 r10 r11 r13 r14 r15 r16 r17 r18 r19 r20 r21 r22 r23 r24 r25 r26 r27 r28 r29 r30 r31 r32 r33 r34 r35 r36 r37 r38 r39 r40 r41 r42 r43 r44 r45 r46 r47 r48 r49 r50 r51 r52 r53 r54 r55 r56 r57 r58 r59 r60 r61 r62 r63 r64 r65 r66 r67 r68 r69 r70 r71 r72 r73 r74 r75 r76 r77 r78 r79 r80 : Value} :
    FiRel w w3 b off n cap B aao an ac m sn ls t { tmps := #[(.slice (some ⟨b, off, none⟩) n cap), r1, r2, r3, r4, r5, (.pointer (some ⟨w.heap.size + 1, 0, none⟩)), r7, r8, r9, r10, r11, (.pointer (some ⟨TB, 0, none⟩)), r13, r14, r15, r16, r17, r18, r19, r20, r21, r22, r23, r24, r25, r26, r27, r28, r29, r30, r31, r32, r33, r34, r35, r36, r37, r38, r39, r40, r41, r42, r43, r44, r45, r46, r47, r48, r49, r50, r51, r52, r53, r54, r55, r56, r57, r58, r59, r60, r61, r62, r63, r64, r65, r66, r67, r68, r69, r70, r71, r72, r73, r74, r75, r76, r77, r78, r79, r80], defers := [] } Z :=
  ⟨TB, CB, ccap, RB, ⟨h1, h2, h3, h4, h5, h6, h7⟩, hJ, fun i => List.getD [undef, r1, r2, r3, r4, r5, undef, r7, r8, r9, r10, r11, undef, r13, r14, r15, r16, r17, r18, r19, r20, r21, r22, r23, r24, r25, r26, r27, r28, r29, r30, r31, r32, r33, r34, r35, r36, r37, r38, r39, r40, r41, r42, r43, r44, r45, r46, r47, r48, r49, r50, r51, r52, r53, r54, r55, r56, r57, r58, r59, r60, r61, r62, r63, r64, r65, r66, r67, r68, r69, r70, r71, r72, r73, r74, r75, r76, r77, r78, r79, r80] i undef, rfl⟩
def rdAct (p12 p13 p14 : Value) (r : Nat -> Value) : Act := { tmps := #[r 0, r 1, r 2, r 3, r 4, r 5, r 6, r 7, r 8, r 9, r 10, r 11, p12, p13, p14, r 15, r 16, r 17, r 18, r 19, r 20, r 21, r 22, r 23, r 24, r 25, r 26, r 27, r 28, r 29, r 30, r 31, r 32, r 33, r 34, r 35, r 36, r 37, r 38, r 39, r 40, r 41, r 42, r 43, r 44, r 45, r 46, r 47, r 48, r 49, r 50, r 51, r 52, r 53, r 54, r 55, r 56, r 57, r 58, r 59, r 60, r 61, r 62, r 63, r 64, r 65, r 66, r 67, r 68, r 69, r 70, r 71, r 72, r 73, r 74, r 75, r 76, r 77, r 78, r 79, r 80], defers := [] }
def FiAx (l : List (Int × Int)) (n TB base : Nat) (k : Nat) (a' : Act) (W : World) : Prop := ∃ Bx, base <= Bx /\ W.cell? ⟨Bx, 0, none⟩ = some (.int .i64 (l.getD (n - 1 - k) (0, 0)).1) /\ W.cell? ⟨Bx, 1, none⟩ = some (.int .i64 (l.getD (n - 1 - k) (0, 0)).2) /\ ∃ r, a' = rdAct (.pointer (some ⟨TB, 0, none⟩)) (.int .i64 ((n - 1 - k : Nat) : Int)) (.pointer (some ⟨Bx, 0, none⟩)) r
def FillOut (W : World) (n m RB : Nat) (aao : Option Addr) (an ac : Nat) (l : List (Int × Int)) (t : Tm) (σ : Nat -> Nat -> Bool) : Prop := IntsV W (.slice aao an ac) (aheadL l) /\ RB < W.heap.size /\ ∀ q, q < n -> ∃ rb, W.cell? ⟨RB, q, none⟩ = some (.slice (some ⟨rb, 0, none⟩) m m) /\ rb < W.heap.size /\ ∀ j, j < m -> W.cell? ⟨rb, j, none⟩ = some (.bool ((t.sub q).hb σ j))
def FillPost (w : World) (b off n cap m sn : Nat) (l : List (Int × Int)) (t : Tm) (σ : Nat -> Nat -> Bool) (e : Ending) (w' : World) : Prop := ∃ B aao ac CB ccap RB, e = .returned (.tuple #[.agg #[.slice (some ⟨b, off, none⟩) n cap, .slice (some ⟨B, 0, none⟩) n n, .slice aao (aheadL l).length ac, .slice (some ⟨CB, 0, none⟩) m ccap, .int .i64 (sn : Int), .slice (some ⟨RB, 0, none⟩) n n], .int .i64 0]) /\ Below w.heap.size w w' /\ FillOut w' n m RB aao (aheadL l).length ac l t σ
def fiQ (J : Act -> World -> Prop) : Exit -> Act -> World -> Prop
  | .normal, a, w => J a w
  | _, _, _ => False
theorem wpOp_value {P : Program} {ops : Array Oper} {Q : Exit -> Act -> World -> Prop} {i : Nat} {K : Act -> World -> Prop} {a : Act} {w w' : World} {o : Oper} {v : Value} (hi : ops[i]? = some o) (hw : Region.wanted o (yielded ops a.tmps) = true) (hr : (execOp a.eval o).run P w = .ok (.value v) w') (h : K (a.put o.dst v) w') : wpOp P ops Q i K a w := by
  unfold wpOp; simp only [hi]; rw [if_pos hw]; refine Or.inl ?_
  unfold Oper.wp; rw [hr]; exact h
theorem all_one {p : Nat -> Prop} {a : Nat} (h : p a) : ∀ i ∈ [a], p i := fun i hi => by
  have : i = a := by simpa using hi
  rw [this]; exact h
theorem all_two {p : Nat -> Prop} {a b : Nat} (h : p a) (h2 : p b) : ∀ i ∈ [a, b], p i := fun i hi => by
  have hx : i = a \/ i = b := by simpa using hi
  rcases hx with hx | hx <;> (rw [hx]; assumption)
theorem all_three {p : Nat -> Prop} {a b c : Nat} (h : p a) (h2 : p b) (h3 : p c) : ∀ i ∈ [a, b, c], p i := fun i hi => by
  have hx : i = a \/ i = b \/ i = c := by simpa using hi
  rcases hx with hx | hx | hx <;> (rw [hx]; assumption)
theorem take_at {P : Program} {md : Region.Mode} {ops : Array Oper} {Q : Exit -> Act -> World -> Prop} {S : World -> Prop} {i : Nat} {oi : Oper} {v : Value} {fuel : Nat} {listed : Array Bool} {a : Act} {w : World} (d : Option Tmp) (hi : ops[i]? = some oi) (hd : oi.dst = d)
    (hs : Region.noSelect ops = true) (hf : Region.free md ops listed i = true) (hr : (Region.ready md ops listed).contains i = true)
    (hQ : ∀ c a w, Q (.panic c) (a.put oi.dst v) w -> Q (.panic c) a w) (hy : YieldsIf P ops S oi v a) (hS : S w)
    (h : wpAnyH P md ops Q S fuel (listed.setIfInBounds i true) (a.put d v) w) : wpAnyH P md ops Q S (fuel + 1) listed a w := wpAnyH_take hi hs hf hr hQ hy hS (hd ▸ h)
theorem wpOp_new {P : Program} {ops : Array Oper} {Q : Exit -> Act -> World -> Prop} {i : Nat} {K : Act -> World -> Prop} {a : Act} {w : World} {o : Oper} (d : Option Tmp) (ob : Obj) (v : Value) (hi : ops[i]? = some o) (hd : o.dst = d) (hw : Region.wanted o (yielded ops a.tmps) = true) (hr : (execOp a.eval o).run P w = .ok (.value v) (w.alloc ob)) (h : ∀ Y, Y = w.alloc ob -> K (a.put d v) Y) : wpOp P ops Q i K a w := wpOp_value hi hw hr (hd ▸ h _ rfl)
theorem wpOp_two {P : Program} {ops : Array Oper} {Q : Exit -> Act -> World -> Prop} {i : Nat} {K : Act -> World -> Prop} {a : Act} {w : World} {o : Oper} {f : FuncId} {args : Array Value} (d : Option Tmp) (val : Nat -> Nat -> Value) (R : Nat -> Nat -> World -> Prop) (hi : ops[i]? = some o) (hd : o.dst = d) (hw : Region.wanted o (yielded ops a.tmps) = true) (hr : (execOp a.eval o).run P w = .ok (.enter f args) w) (h : Calls P f args w fun e w' => ∃ x y, e = .returned (val x y) /\ R x y w') (hR : ∀ x y w', R x y w' -> K (a.put d (val x y)) w') : wpOp P ops Q i K a w :=
  wpOp_call hi hw hr h fun _ w' hx => Exists.elim hx fun x hx => Exists.elim hx fun y hx => ⟨val x y, hx.1, hd ▸ hR x y w' hx.2⟩
theorem wpOp_law {ops : Array Oper} {Q : Exit -> Act -> World -> Prop} {i : Nat} {K : Act -> World -> Prop} {a : Act} {w : World} {o : Oper} {f : FuncId} {args : Array Value} {m : Nat} {u v : Nat -> Bool} (d : Option Tmp) (hi : ops[i]? = some o) (hd : o.dst = d) (hw : Region.wanted o (yielded ops a.tmps) = true) (hr : (execOp a.eval o).run Tryz.prog w = .ok (.enter f args) w) (h : Calls Tryz.prog f args w (LawPost w m u v)) (hR : ∀ g caps w', Below w.heap.size w w' -> LawAt w' (.func (.func g) #[] caps) m u v -> K (a.put d (.func (.func g) #[] caps)) w') : wpOp Tryz.prog ops Q i K a w :=
  wpOp_call hi hw hr h fun _ w' hx => Exists.elim hx fun g hx => Exists.elim hx fun caps hx => ⟨_, hx.1, hd ▸ hR g caps w' hx.2.1 hx.2.2⟩
theorem wpOp_ret {P : Program} {ops : Array Oper} {Q : Exit -> Act -> World -> Prop} {i : Nat} {K : Act -> World -> Prop} {a : Act} {w : World} {o : Oper} {f : FuncId} {args : Array Value} (d : Option Tmp) (v : Value) (R : World -> Prop) (hi : ops[i]? = some o) (hd : o.dst = d) (hw : Region.wanted o (yielded ops a.tmps) = true) (hr : (execOp a.eval o).run P w = .ok (.enter f args) w) (h : Calls P f args w fun e w' => e = .returned v /\ R w') (hR : ∀ w', R w' -> K (a.put d v) w') : wpOp P ops Q i K a w :=
  wpOp_call hi hw hr h fun _ w' hx => ⟨v, hx.1, hd ▸ hR w' hx.2⟩
theorem wpOp_none {P : Program} {ops : Array Oper} {Q : Exit -> Act -> World -> Prop} {i : Nat} {K : Act -> World -> Prop} {a : Act} {w : World} {o : Oper} (w' : World) (hi : ops[i]? = some o) (hd : o.dst = none) (hw : Region.wanted o (yielded ops a.tmps) = true) (hr : (execOp a.eval o).run P w = .ok .skip w') (h : K a w') : wpOp P ops Q i K a w :=
  wpOp_skip hi hw hr (by rw [hd]; exact h)
set_option maxRecDepth 100000 in
theorem fill_ok (b off cap n : Nat) (so lo : Option Addr) (sn sc ln lc : Nat) (l : List (Int × Int)) (ss ll : List (List Bool)) (props : Int) (t : Tm) (w : World) (hB : 0 < w.heap.size) (hT : TabAt w) (hln : n = l.length) (hbl : b < w.heap.size) (hat : OpsAt w b off l) (hcap : n <= cap) (hsn : sn = ss.length) (hlln : ln = ll.length) (hS : LettersV w (.slice so sn sc) ss) (hL : LettersV w (.slice lo ln lc) ll) (hc : lcode props l = 0) (hd : wdcode props ss ll = 0) (hwf : t.Wf) (hto : t.ops = l) :
    Calls Tryz.prog 54 #[.slice (some ⟨b, off, none⟩) n cap, .agg #[.slice so sn sc, .slice lo ln lc], .int .i64 props] w (FillPost w b off n cap (sn + ln) sn l t (sig (ss ++ ll) sn)) := by
  have hV : OpsV w (.slice (some ⟨b, off, none⟩) n cap) l := by
    subst hln; exact ⟨_, cap, rfl, ⟨hcap, fun h => by simp at h⟩, fun _ => ⟨b, off, rfl, hbl, hat⟩⟩
  obtain ⟨⟨hp0, hp6⟩, h12, h1, hl12, hlet⟩ := wdcode_zero hd; have hA : Below w.heap.size w ((w.alloc (.cells #[.slice so sn sc, .slice lo ln lc] 62)).alloc (.cells #[.slice none 0 0, .slice none 0 0, .slice none 0 0, .slice none 0 0, .int .i64 0, .slice none 0 0] 131)) := ((Below.refl _ _).alloc (Nat.le_refl _) _).alloc (by simp) _
  have hah : Calls Tryz.prog 77 #[.slice (some ⟨b, off, none⟩) n cap, .int .i64 props] ((w.alloc (.cells #[.slice so sn sc, .slice lo ln lc] 62)).alloc (.cells #[.slice none 0 0, .slice none 0 0, .slice none 0 0, .slice none 0 0, .int .i64 0, .slice none 0 0] 131)) fun e w' => ∃ aao ac, e = .returned (.tuple #[.slice aao (aheadL l).length ac, .int .i64 0]) /\ Below w.heap.size w w' /\ Below (w.heap.size + 1 + 1) ((w.alloc (.cells #[.slice so sn sc, .slice lo ln lc] 62)).alloc (.cells #[.slice none 0 0, .slice none 0 0, .slice none 0 0, .slice none 0 0, .int .i64 0, .slice none 0 0] 131)) w' /\ Hid (w'.ownsRow (w.heap.size + 1 + 1) 3 1 (.slice aao (aheadL l).length ac) (aheadL l).length (ivals (aheadL l))) := (lahead_own _ l props ((w.alloc (.cells #[.slice so sn sc, .slice lo ln lc] 62)).alloc (.cells #[.slice none 0 0, .slice none 0 0, .slice none 0 0, .slice none 0 0, .int .i64 0, .slice none 0 0] 131)) (Nat.lt_of_lt_of_le hB hA.size) (hT.below hA hB) (hV.below hA) hc).mono fun e w' ⟨aao, ac, h1, h2, h3⟩ => ⟨aao, ac, h1, hA.trans (h2.mono hA.size), by simpa using h2, by have h := h3.out; simp only [World.size_alloc] at h; exact h⟩
  have h6 := Six.new (w.alloc (.cells #[.slice so sn sc, .slice lo ln lc] 62)) (.slice none 0 0) (.slice none 0 0) (.slice none 0 0) (.slice none 0 0) (.int .i64 0) (.slice none 0 0) 131; have hch := fun w1 (hb : Below w.heap.size w w1) => wcheck_any _ _ ss ll props w1 (by omega) (by omega) (hS.below hb) (hL.below hb)
  rw [hd] at hch; obtain ⟨_, _, hz, hlf, h6a⟩ := lcode_zero hc; obtain ⟨hne, h60⟩ := ends_ne hz; rw [List.length_map, <- hln] at h60; have hen := fun w1 (hb : Below w.heap.size w w1) => (ends_any _ (l.map Prod.fst) w1 (Nat.lt_of_lt_of_le hB hb.size) (hT.below hb hB) (hV.below hb).kinds).mono fun e w' (hp : EndsPost (l.map Prod.fst) w1 e w') => hp
  have hw0 : ((w.alloc (.cells #[.slice so sn sc, .slice lo ln lc] 62)).alloc (.cells #[.slice none 0 0, .slice none 0 0, .slice none 0 0, .slice none 0 0, .int .i64 0, .slice none 0 0] 131)).cell? ⟨w.heap.size, 0, none⟩ = some (.slice so sn sc) := by simp [go_sem]
  have hw1 : ((w.alloc (.cells #[.slice so sn sc, .slice lo ln lc] 62)).alloc (.cells #[.slice none 0 0, .slice none 0 0, .slice none 0 0, .slice none 0 0, .int .i64 0, .slice none 0 0] 131)).cell? ⟨w.heap.size, 1, none⟩ = some (.slice lo ln lc) := by simp [go_sem]
  simp only [World.size_alloc] at h6
  have hen2 : ∀ w1, Below w.heap.size w w1 -> Calls Tryz.prog 86 #[.slice (some ⟨b, off, none⟩) n cap] w1 fun e w' => ∃ B, e = .returned (.tuple #[.slice (some ⟨B, 0, none⟩) n n, .int .i64 0]) /\ Below w1.heap.size w1 w' /\ Hid (w'.rowIs B 3 n (fun q => .int .i64 (endAt (l.map Prod.fst) q))) := fun w1 hb => (hen w1 hb).mono fun e w' ⟨h1, _, h3⟩ => by
    obtain ⟨B, _, he, hr⟩ := h3 hz; rw [List.length_map, <- hln] at he hr; exact ⟨B, he, h1, hr⟩
  have hmk := run_make_row' (P := Tryz.prog) 52 60 (.slice none 0 0) 24 Tryz.underlying52 infoBools rfl .i64 .i64 n (by omega) (by omega)
  obtain ⟨m, hm⟩ : ∃ m, m = sn + ln := ⟨_, rfl⟩
  have HQ : Hid (∀ e w' B aao ac CB ccap RB, e = .returned (.tuple #[.agg #[.slice (some ⟨b, off, none⟩) n cap, .slice (some ⟨B, 0, none⟩) n n, .slice aao (aheadL l).length ac, .slice (some ⟨CB, 0, none⟩) (sn + ln) ccap, .int .i64 (sn : Int), .slice (some ⟨RB, 0, none⟩) n n], .int .i64 0]) -> Below w.heap.size w w' -> FillOut w' n (sn + ln) RB aao (aheadL l).length ac l t (sig (ss ++ ll) sn) -> FillPost w b off n cap (sn + ln) sn l t (sig (ss ++ ll) sn) e w') := fun e w' B aao ac CB ccap RB h1 h2 h3 => ⟨B, aao, ac, CB, ccap, RB, h1, h2, h3⟩
  rw [<- hm] at HQ ⊢; generalize FillPost w b off n cap m sn l t (sig (ss ++ ll) sn) = PO at *; have HAn : Hid (∀ an, an = (aheadL l).length -> an = (aheadL l).length) := fun _ h => h
  obtain ⟨an, han⟩ : ∃ an, an = (aheadL l).length := ⟨_, rfl⟩
  have HAN : Hid (an = (aheadL l).length) := han; rw [<- han] at hah HQ h6a; clear han HAn; have HLN : Hid (n = l.length) := hln; have HC : Hid (lcode props l = 0) := hc; have HS : Hid (LettersV w (.slice so sn sc) ss) := hS; have HL : Hid (LettersV w (.slice lo ln lc) ll) := hL; have HAt : Hid (OpsAt w b off l) := hat; have HZ : Hid (endsCode (l.map Prod.fst) = 0) := hz
  have HLf : Hid (lfirst props l = 0) := hlf; have HLt := (show Hid _ from hlet)
  have HSn : Hid (sn = ss.length) := hsn; have HLn : Hid (ln = ll.length) := hlln; have HM : Hid (m = sn + ln) := hm; have HTo : Hid (t.ops = l) := hto; have hmx : Tryz.prog.follows .mixedOrders = true := by kernel_rfl
  have hsn12 : sn <= 12 := by omega
  have hln1 : 1 <= ln := by omega
  have hln12 : ln <= 12 := by omega
  have hm24 : m <= 24 := by omega
  have hsm : sn < m := by omega
  clear hT hV hen hln hc hd hS hL hat hz hlf hlet hsn hlln hm hto hne; refine (callsIn_wide (n := 8)).1 ?_
  refine callsIn_of_wp_marks Tryz.func54 rfl trivial ?_ rfl
  simp only [Tryz.ntmps54, List.size_toArray, List.length_cons, List.length_nil, Nat.reduceAdd, Nat.reduceSub, Array.replicate_succ, Array.replicate_zero, List.push_toArray, List.append_toArray, List.nil_append, List.cons_append]; refine wpIn_wide.2 ?_
  go_wp2_with (first | (go_at_call 77; refine hah.mono ?_; clear hah; rintro e w1 ⟨aao, ac, rfl, hbw1, hb1, HI⟩; have g6 := h6.below hb1 (by omega); have hc1 := hch w1 hbw1; have d0 := (hb1.cell (p := ⟨w.heap.size, 0, none⟩) (by show w.heap.size < _; omega)).trans hw0; have d1 := (hb1.cell (p := ⟨w.heap.size, 1, none⟩) (by show w.heap.size < _; omega)).trans hw1) | (go_at_call 85; refine hc1.mono ?_; clear hc1; rintro e w2 ⟨rfl, hb2⟩; have hbw2 := hbw1.trans (hb2.mono hbw1.size); have hen3 := hen2 w2 hbw2) | (go_at_call 86; refine hen3.mono ?_; clear hen3; rintro e w3 ⟨B, rfl, hb3, HR3⟩; have hbw3 := hbw2.trans (hb3.mono hbw2.size)))
  have HG6 : Hid (Six w3 (w.heap.size + 1) (.slice none 0 0) (.slice none 0 0) (.slice none 0 0) (.slice none 0 0) (.int .i64 0) (.slice none 0 0)) := (g6.below hb2 g6.hl).below hb3 (g6.below hb2 g6.hl).hl; have HI3 : Hid (w3.ownsRow (w.heap.size + 1 + 1) 3 1 (.slice aao an ac) an (ivals (aheadL l))) := owns_later (owns_later HI.out hb2 (Nat.le_refl _)) hb3 (Nat.le_refl _); clear g6 HI
  have hwl1 : w.heap.size < w1.heap.size := by have := hb1.size; simp at this; omega
  have hwl2 : w.heap.size < w2.heap.size := Nat.lt_of_lt_of_le hwl1 hb2.size; have hwl : w.heap.size < w3.heap.size := Nat.lt_of_lt_of_le hwl2 hb3.size
  have HSv : Hid (∀ Y, Below w3.heap.size w3 Y -> Y.cell? ⟨w.heap.size, 0, none⟩ = some (.slice so sn sc) /\ Y.cell? ⟨w.heap.size, 1, none⟩ = some (.slice lo ln lc)) := fun Y hb => ⟨(hb.cell (p := ⟨w.heap.size, 0, none⟩) hwl).trans ((hb3.cell (p := ⟨w.heap.size, 0, none⟩) hwl2).trans ((hb2.cell (p := ⟨w.heap.size, 0, none⟩) hwl1).trans d0)), (hb.cell (p := ⟨w.heap.size, 1, none⟩) hwl).trans ((hb3.cell (p := ⟨w.heap.size, 1, none⟩) hwl2).trans ((hb2.cell (p := ⟨w.heap.size, 1, none⟩) hwl1).trans d1))⟩
  have HSx : Hid (∀ (Y : World) TB, w3.heap.size <= TB -> ∀ v0 v1 v2 v3 v4 v5, (Y.cell? ⟨w.heap.size, 0, none⟩ = some (.slice so sn sc) /\ Y.cell? ⟨w.heap.size, 1, none⟩ = some (.slice lo ln lc)) -> (((((((Y.setCell ⟨TB, 0, none⟩ (v0)).setCell ⟨TB, 1, none⟩ (v1)).setCell ⟨TB, 2, none⟩ (v2)).setCell ⟨TB, 3, none⟩ (v3)).setCell ⟨TB, 4, none⟩ (v4)).setCell ⟨TB, 5, none⟩ (v5))).cell? ⟨w.heap.size, 0, none⟩ = some (.slice so sn sc) /\ (((((((Y.setCell ⟨TB, 0, none⟩ (v0)).setCell ⟨TB, 1, none⟩ (v1)).setCell ⟨TB, 2, none⟩ (v2)).setCell ⟨TB, 3, none⟩ (v3)).setCell ⟨TB, 4, none⟩ (v4)).setCell ⟨TB, 5, none⟩ (v5))).cell? ⟨w.heap.size, 1, none⟩ = some (.slice lo ln lc)) := fun Y TB h v0 v1 v2 v3 v4 v5 hY => ⟨(chain_far Y TB w.heap.size 0 (by omega) v0 v1 v2 v3 v4 v5).trans hY.1, (chain_far Y TB w.heap.size 1 (by omega) v0 v1 v2 v3 v4 v5).trans hY.2⟩
  clear hch hen2 hw0 hw1 h6; refine Code.wp_mono (Q := fiQ (FiRel w w3 b off n cap B aao an ac m sn (ss ++ ll) t)) ?cont ?reg
  case reg =>
    refine wp_region_held (S := fun Y => Y.cell? ⟨w.heap.size, 0, none⟩ = some (.slice so sn sc) /\ Y.cell? ⟨w.heap.size, 1, none⟩ = some (.slice lo ln lc)) hmx ?_
    show wpAnyH _ _ _ _ _ _ _ _ w3.drew
    obtain ⟨Y0, hY0⟩ : ∃ Y0, Y0 = w3.drew := ⟨_, rfl⟩
    rw [<- hY0]; have y0 : Below w3.heap.size w3 Y0 := by rw [hY0]; exact (Below.refl _ _).drew
    clear hY0; refine take_at (i := 0) (v := .slice (some ⟨b, off, none⟩) n cap) (some 42) rfl (by rfl) (by kernel_rfl) (by kernel_rfl) (by kernel_rfl) (fun _ _ _ h => h) (Or.inl ⟨by rfl, fun wq hSw => by obtain ⟨q0, q1⟩ := hSw; go_simp⟩) (HSv.out _ y0) ?_
    simp only [Act.put, List.setIfInBounds_toArray, List.set_cons_succ, List.set_cons_zero]; refine take_at (i := 1) (v := .slice (some ⟨B, 0, none⟩) n n) (some 43) rfl (by rfl) (by kernel_rfl) (by kernel_rfl) (by kernel_rfl) (fun _ _ _ h => h) (Or.inl ⟨by rfl, fun wq hSw => by obtain ⟨q0, q1⟩ := hSw; go_simp⟩) (HSv.out _ y0) ?_
    simp only [Act.put, List.setIfInBounds_toArray, List.set_cons_succ, List.set_cons_zero]; refine take_at (i := 2) (v := .slice aao an ac) (some 44) rfl (by rfl) (by kernel_rfl) (by kernel_rfl) (by kernel_rfl) (fun _ _ _ h => h) (Or.inl ⟨by rfl, fun wq hSw => by obtain ⟨q0, q1⟩ := hSw; go_simp⟩) (HSv.out _ y0) ?_
    simp only [Act.put, List.setIfInBounds_toArray, List.set_cons_succ, List.set_cons_zero]; refine take_at (i := 3) (v := .pointer (some ⟨w.heap.size, 0, none⟩)) (some 45) rfl (by rfl) (by kernel_rfl) (by kernel_rfl) (by kernel_rfl) (fun _ _ _ h => h) (Or.inl ⟨by rfl, fun wq hSw => by obtain ⟨q0, q1⟩ := hSw; go_simp⟩) (HSv.out _ y0) ?_
    simp only [Act.put, List.setIfInBounds_toArray, List.set_cons_succ, List.set_cons_zero]; refine take_at (i := 4) (v := .slice so sn sc) (some 46) rfl (by rfl) (by kernel_rfl) (by kernel_rfl) (by kernel_rfl) (fun _ _ _ h => h) (Or.inl ⟨by rfl, fun wq hSw => by obtain ⟨q0, q1⟩ := hSw; go_simp⟩) (HSv.out _ y0) ?_
    simp only [Act.put, List.setIfInBounds_toArray, List.set_cons_succ, List.set_cons_zero]; refine take_at (i := 5) (v := .pointer (some ⟨w.heap.size, 1, none⟩)) (some 47) rfl (by rfl) (by kernel_rfl) (by kernel_rfl) (by kernel_rfl) (fun _ _ _ h => h) (Or.inl ⟨by rfl, fun wq hSw => by obtain ⟨q0, q1⟩ := hSw; go_simp⟩) (HSv.out _ y0) ?_
    simp only [Act.put, List.setIfInBounds_toArray, List.set_cons_succ, List.set_cons_zero]; refine take_at (i := 6) (v := .slice lo ln lc) (some 48) rfl (by rfl) (by kernel_rfl) (by kernel_rfl) (by kernel_rfl) (fun _ _ _ h => h) (Or.inl ⟨by rfl, fun wq hSw => by obtain ⟨q0, q1⟩ := hSw; go_simp⟩) (HSv.out _ y0) ?_
    simp only [Act.put, List.setIfInBounds_toArray, List.set_cons_succ, List.set_cons_zero]; refine take_at (i := 9) (v := .pointer (some ⟨w.heap.size, 0, none⟩)) (some 51) rfl (by rfl) (by kernel_rfl) (by kernel_rfl) (by kernel_rfl) (fun _ _ _ h => h) (Or.inl ⟨by rfl, fun wq hSw => by obtain ⟨q0, q1⟩ := hSw; go_simp⟩) (HSv.out _ y0) ?_
    simp only [Act.put, List.setIfInBounds_toArray, List.set_cons_succ, List.set_cons_zero]; refine take_at (i := 10) (v := .slice so sn sc) (some 52) rfl (by rfl) (by kernel_rfl) (by kernel_rfl) (by kernel_rfl) (fun _ _ _ h => h) (Or.inl ⟨by rfl, fun wq hSw => by obtain ⟨q0, q1⟩ := hSw; go_simp⟩) (HSv.out _ y0) ?_
    simp only [Act.put, List.setIfInBounds_toArray, List.set_cons_succ, List.set_cons_zero]; refine take_at (i := 11) (v := .int .i64 (sn : Int)) (some 53) rfl (by rfl) (by kernel_rfl) (by kernel_rfl) (by kernel_rfl) (fun _ _ _ h => h) (Or.inl ⟨by rfl, fun wq hSw => by obtain ⟨q0, q1⟩ := hSw; go_simp⟩) (HSv.out _ y0) ?_
    simp only [Act.put, List.setIfInBounds_toArray, List.set_cons_succ, List.set_cons_zero]; refine take_at (i := 12) (v := .slice (some ⟨b, off, none⟩) n cap) (some 54) rfl (by rfl) (by kernel_rfl) (by kernel_rfl) (by kernel_rfl) (fun _ _ _ h => h) (Or.inl ⟨by rfl, fun wq hSw => by obtain ⟨q0, q1⟩ := hSw; go_simp⟩) (HSv.out _ y0) ?_
    simp only [Act.put, List.setIfInBounds_toArray, List.set_cons_succ, List.set_cons_zero]; refine take_at (i := 13) (v := .int .i64 (n : Int)) (some 55) rfl (by rfl) (by kernel_rfl) (by kernel_rfl) (by kernel_rfl) (fun _ _ _ h => h) (Or.inl ⟨by rfl, fun wq hSw => by obtain ⟨q0, q1⟩ := hSw; go_simp⟩) (HSv.out _ y0) ?_
    simp only [Act.put, List.setIfInBounds_toArray, List.set_cons_succ, List.set_cons_zero]; refine wpAnyH_all (rs := [7, 14, 16]) (by kernel_rfl) (by decide) ?_
    refine all_three ?_ ?_ ?_
    · skip
      refine wpOp_new (some 49) (.cells #[.slice so sn sc, .slice lo ln lc] 52) (.slice (some ⟨Y0.heap.size, 0, none⟩) 2 2) rfl (by rfl) (by rfl) (by go_simp) ?_
      intro Y1 e1; have s1 : Below Y0.heap.size Y0 Y1 := by rw [e1]; exact (Below.refl _ _).alloc (Nat.le_refl _) _
      have z1 : Y0.heap.size < Y1.heap.size := by rw [e1]; simp
      have y1 : Below w3.heap.size w3 Y1 := y0.trans (s1.mono y0.size); have g0 : Y1.cell? ⟨Y0.heap.size, 0, none⟩ = some (.slice so sn sc) := by rw [e1]; simp [go_sem]
      have g1 : Y1.cell? ⟨Y0.heap.size, 1, none⟩ = some (.slice lo ln lc) := by rw [e1]; simp [go_sem]
      refine And.intro (HSv.out _ y1) ?_
      clear e1; simp only [Act.put, List.setIfInBounds_toArray, List.set_cons_succ, List.set_cons_zero]; refine wpAnyH_all (rs := [8, 14, 16]) (by kernel_rfl) (by decide) ?_
      refine all_three ?_ ?_ ?_
      · skip
        have hco := concat_own Y0.heap.size _ _ ss ll w Y1 (hbw3.trans (y1.mono hbw3.size)) h12 hl12 h1 HS.out HL.out (((Below.refl Y1.heap.size Y1).cell (p := ⟨Y0.heap.size, 0, none⟩) (by show Y0.heap.size < _; omega)).trans g0) (((Below.refl Y1.heap.size Y1).cell (p := ⟨Y0.heap.size, 1, none⟩) (by show Y0.heap.size < _; omega)).trans g1)
        rw [<- HSn.out, <- HLn.out, <- HM.out] at hco; refine wpOp_two (some 50) (fun CB ccap => .slice (some ⟨CB, 0, none⟩) m ccap) _ rfl (by rfl) (by rfl) (by go_simp) hco ?_
        intro CB ccap Y2 hR; have s2 := hR.1; have HCo := hR.2; clear hco hR; have z2 : Y1.heap.size <= Y2.heap.size := s2.size; have y2 : Below w3.heap.size w3 Y2 := y1.trans (s2.mono y1.size); refine And.intro (HSv.out _ y2) ?_
        simp only [Act.put, List.setIfInBounds_toArray, List.set_cons_succ, List.set_cons_zero]; refine wpAnyH_all (rs := [14, 16]) (by kernel_rfl) (by decide) ?_
        refine all_two ?_ ?_
        · skip
          refine wpOp_new (some 56) (.cells (madeCells #[.slice none 0 0] n) 60) (.slice (some ⟨Y2.heap.size, 0, none⟩) n n) rfl (by rfl) (by rfl) (by go_simp) ?_
          intro Y3 e3; have s3 : Below Y2.heap.size Y2 Y3 := by rw [e3]; exact (Below.refl _ _).alloc (Nat.le_refl _) _
          have z3 : Y2.heap.size < Y3.heap.size := by rw [e3]; simp
          have y3 : Below w3.heap.size w3 Y3 := y2.trans (s3.mono y2.size); have hrow : Y3.rowIs Y2.heap.size 60 n (fun _ => .slice none 0 0) := by rw [e3]; exact World.rowIs_made _ _ _ _
          refine And.intro (HSv.out _ y3) ?_
          clear e3; simp only [Act.put, List.setIfInBounds_toArray, List.set_cons_succ, List.set_cons_zero]
          refine take_at (i := 15) (v := .agg #[.slice (some ⟨b, off, none⟩) n cap, .slice (some ⟨B, 0, none⟩) n n, .slice aao an ac, .slice (some ⟨CB, 0, none⟩) m ccap, .int .i64 (sn : Int), .slice (some ⟨Y2.heap.size, 0, none⟩) n n]) (some 57) rfl (by rfl) (by kernel_rfl) (by kernel_rfl) (by kernel_rfl) (fun _ _ _ h => h) (Or.inl ⟨by rfl, fun wq hSw => by obtain ⟨q0, q1⟩ := hSw; go_simp⟩) (HSv.out _ y3) ?_
          simp only [Act.put, List.setIfInBounds_toArray, List.set_cons_succ, List.set_cons_zero]; refine wpAnyH_all (rs := [16]) (by kernel_rfl) (by decide) ?_
          refine all_one ?_
          refine wpOp_new (some 12) (.cells #[.slice none 0 0, .slice none 0 0, .slice none 0 0, .slice none 0 0, .int .i64 0, .slice none 0 0] 131) (.pointer (some ⟨Y3.heap.size, 0, none⟩)) rfl (by rfl) (by rfl) (by go_simp) ?_
          intro Y4 e4; have s4 : Below Y3.heap.size Y3 Y4 := by rw [e4]; exact (Below.refl _ _).alloc (Nat.le_refl _) _
          have z4 : Y3.heap.size < Y4.heap.size := by rw [e4]; simp
          have y4 : Below w3.heap.size w3 Y4 := y3.trans (s4.mono y3.size); have h6n : Six Y4 Y3.heap.size (.slice none 0 0) (.slice none 0 0) (.slice none 0 0) (.slice none 0 0) (.int .i64 0) (.slice none 0 0) := by rw [e4]; exact Six.new _ _ _ _ _ _ _ _
          refine And.intro (HSv.out _ y4) ?_
          clear e4; simp only [Act.put, List.setIfInBounds_toArray, List.set_cons_succ, List.set_cons_zero]; have six := h6n.below (Below.refl Y4.heap.size Y4) h6n.hl; have k0 := six.k0; have f0 := six.f0; have k1 := six.k1; have f1 := six.f1; have k2 := six.k2; have f2 := six.f2; have k3 := six.k3; have f3 := six.f3; have k4 := six.k4; have f4 := six.f4; have k5 := six.k5
          have f5 := six.f5; have hsl := six.hl; refine wpAnyH_all (rs := [17]) (by kernel_rfl) (by decide) ?_
          refine all_one ?_
          have HF : Hid (FiJ w w3 b off n cap B aao an ac m sn (ss ++ ll) t (Y3.heap.size) CB ccap (Y2.heap.size) 0 0 ((((((Y4.setCell ⟨Y3.heap.size, 0, none⟩ (.slice (some ⟨b, off, none⟩) n cap)).setCell ⟨Y3.heap.size, 1, none⟩ (.slice (some ⟨B, 0, none⟩) n n)).setCell ⟨Y3.heap.size, 2, none⟩ (.slice aao an ac)).setCell ⟨Y3.heap.size, 3, none⟩ (.slice (some ⟨CB, 0, none⟩) m ccap)).setCell ⟨Y3.heap.size, 4, none⟩ (.int .i64 (sn : Int))).setCell ⟨Y3.heap.size, 5, none⟩ (.slice (some ⟨Y2.heap.size, 0, none⟩) n n))) := FiJ.start y4 six (by obtain ⟨us, o1, o2⟩ := HCo.out; exact ⟨us, owns_mono (owns_later o1 (s3.trans (s4.mono s3.size)) (Nat.le_refl _)) y1.size, o2⟩) (row_later hrow s4) (by have := y3.size; omega) (by omega) (by obtain ⟨us, o1, o2⟩ := HCo.out; have hq := (o1.lt CB rfl); omega) (Nat.zero_le _)
          have hneC : CB ≠ Y2.heap.size := by obtain ⟨us, o1, o2⟩ := HCo.out; have hq := (o1.lt CB rfl); omega
          have hltC : CB < Y4.heap.size := by obtain ⟨us, o1, o2⟩ := HCo.out; have hq := (o1.lt CB rfl); omega
          refine wpOp_none (((((((Y4.setCell ⟨Y3.heap.size, 0, none⟩ (.slice (some ⟨b, off, none⟩) n cap)).setCell ⟨Y3.heap.size, 1, none⟩ (.slice (some ⟨B, 0, none⟩) n n)).setCell ⟨Y3.heap.size, 2, none⟩ (.slice aao an ac)).setCell ⟨Y3.heap.size, 3, none⟩ (.slice (some ⟨CB, 0, none⟩) m ccap)).setCell ⟨Y3.heap.size, 4, none⟩ (.int .i64 (sn : Int))).setCell ⟨Y3.heap.size, 5, none⟩ (.slice (some ⟨Y2.heap.size, 0, none⟩) n n))) rfl (by rfl) (by rfl) (by go_simp) (And.intro (HSx.out _ _ (by have := y3.size; omega) _ _ _ _ _ _ (HSv.out _ y4)) ?_)
          refine wpAnyH_done (by kernel_rfl) ?_ _
          have u1 : Y3.heap.size ≠ Y2.heap.size := by omega
          have u3 : w3.heap.size <= Y3.heap.size := by have := y3.size; omega
          have u4 : w3.heap.size <= Y2.heap.size := by have := y2.size; omega
          have u5 : Y3.heap.size < ((((((Y4.setCell ⟨Y3.heap.size, 0, none⟩ (.slice (some ⟨b, off, none⟩) n cap)).setCell ⟨Y3.heap.size, 1, none⟩ (.slice (some ⟨B, 0, none⟩) n n)).setCell ⟨Y3.heap.size, 2, none⟩ (.slice aao an ac)).setCell ⟨Y3.heap.size, 3, none⟩ (.slice (some ⟨CB, 0, none⟩) m ccap)).setCell ⟨Y3.heap.size, 4, none⟩ (.int .i64 (sn : Int))).setCell ⟨Y3.heap.size, 5, none⟩ (.slice (some ⟨Y2.heap.size, 0, none⟩) n n)).heap.size := by simp only [World.size_setCell]; omega
          have u6 : CB < ((((((Y4.setCell ⟨Y3.heap.size, 0, none⟩ (.slice (some ⟨b, off, none⟩) n cap)).setCell ⟨Y3.heap.size, 1, none⟩ (.slice (some ⟨B, 0, none⟩) n n)).setCell ⟨Y3.heap.size, 2, none⟩ (.slice aao an ac)).setCell ⟨Y3.heap.size, 3, none⟩ (.slice (some ⟨CB, 0, none⟩) m ccap)).setCell ⟨Y3.heap.size, 4, none⟩ (.int .i64 (sn : Int))).setCell ⟨Y3.heap.size, 5, none⟩ (.slice (some ⟨Y2.heap.size, 0, none⟩) n n)).heap.size := by simp only [World.size_setCell]; omega
          have u7 : Y2.heap.size < ((((((Y4.setCell ⟨Y3.heap.size, 0, none⟩ (.slice (some ⟨b, off, none⟩) n cap)).setCell ⟨Y3.heap.size, 1, none⟩ (.slice (some ⟨B, 0, none⟩) n n)).setCell ⟨Y3.heap.size, 2, none⟩ (.slice aao an ac)).setCell ⟨Y3.heap.size, 3, none⟩ (.slice (some ⟨CB, 0, none⟩) m ccap)).setCell ⟨Y3.heap.size, 4, none⟩ (.int .i64 (sn : Int))).setCell ⟨Y3.heap.size, 5, none⟩ (.slice (some ⟨Y2.heap.size, 0, none⟩) n n)).heap.size := by simp only [World.size_setCell]; omega
          show FiRel _ _ _ _ _ _ _ _ _ _ _ _ _ _ _ _
          exact firel_mk (Y3.heap.size) CB ccap (Y2.heap.size) u1 hneC u3 u4 u5 u6 u7 HF.out
        · skip
          refine wpOp_new (some 12) (.cells #[.slice none 0 0, .slice none 0 0, .slice none 0 0, .slice none 0 0, .int .i64 0, .slice none 0 0] 131) (.pointer (some ⟨Y2.heap.size, 0, none⟩)) rfl (by rfl) (by rfl) (by go_simp) ?_
          intro Y3 e3; have s3 : Below Y2.heap.size Y2 Y3 := by rw [e3]; exact (Below.refl _ _).alloc (Nat.le_refl _) _
          have z3 : Y2.heap.size < Y3.heap.size := by rw [e3]; simp
          have y3 : Below w3.heap.size w3 Y3 := y2.trans (s3.mono y2.size); have h6n : Six Y3 Y2.heap.size (.slice none 0 0) (.slice none 0 0) (.slice none 0 0) (.slice none 0 0) (.int .i64 0) (.slice none 0 0) := by rw [e3]; exact Six.new _ _ _ _ _ _ _ _
          refine And.intro (HSv.out _ y3) ?_
          clear e3; simp only [Act.put, List.setIfInBounds_toArray, List.set_cons_succ, List.set_cons_zero]; refine wpAnyH_all (rs := [14]) (by kernel_rfl) (by decide) ?_
          refine all_one ?_
          refine wpOp_new (some 56) (.cells (madeCells #[.slice none 0 0] n) 60) (.slice (some ⟨Y3.heap.size, 0, none⟩) n n) rfl (by rfl) (by rfl) (by go_simp) ?_
          intro Y4 e4; have s4 : Below Y3.heap.size Y3 Y4 := by rw [e4]; exact (Below.refl _ _).alloc (Nat.le_refl _) _
          have z4 : Y3.heap.size < Y4.heap.size := by rw [e4]; simp
          have y4 : Below w3.heap.size w3 Y4 := y3.trans (s4.mono y3.size); have hrow : Y4.rowIs Y3.heap.size 60 n (fun _ => .slice none 0 0) := by rw [e4]; exact World.rowIs_made _ _ _ _
          refine And.intro (HSv.out _ y4) ?_
          clear e4; simp only [Act.put, List.setIfInBounds_toArray, List.set_cons_succ, List.set_cons_zero]
          refine take_at (i := 15) (v := .agg #[.slice (some ⟨b, off, none⟩) n cap, .slice (some ⟨B, 0, none⟩) n n, .slice aao an ac, .slice (some ⟨CB, 0, none⟩) m ccap, .int .i64 (sn : Int), .slice (some ⟨Y3.heap.size, 0, none⟩) n n]) (some 57) rfl (by rfl) (by kernel_rfl) (by kernel_rfl) (by kernel_rfl) (fun _ _ _ h => h) (Or.inl ⟨by rfl, fun wq hSw => by obtain ⟨q0, q1⟩ := hSw; go_simp⟩) (HSv.out _ y4) ?_
          simp only [Act.put, List.setIfInBounds_toArray, List.set_cons_succ, List.set_cons_zero]; have six := h6n.below s4 h6n.hl; have k0 := six.k0; have f0 := six.f0; have k1 := six.k1; have f1 := six.f1; have k2 := six.k2; have f2 := six.f2; have k3 := six.k3; have f3 := six.f3; have k4 := six.k4; have f4 := six.f4; have k5 := six.k5; have f5 := six.f5; have hsl := six.hl
          refine wpAnyH_all (rs := [17]) (by kernel_rfl) (by decide) ?_
          refine all_one ?_
          have HF : Hid (FiJ w w3 b off n cap B aao an ac m sn (ss ++ ll) t (Y2.heap.size) CB ccap (Y3.heap.size) 0 0 ((((((Y4.setCell ⟨Y2.heap.size, 0, none⟩ (.slice (some ⟨b, off, none⟩) n cap)).setCell ⟨Y2.heap.size, 1, none⟩ (.slice (some ⟨B, 0, none⟩) n n)).setCell ⟨Y2.heap.size, 2, none⟩ (.slice aao an ac)).setCell ⟨Y2.heap.size, 3, none⟩ (.slice (some ⟨CB, 0, none⟩) m ccap)).setCell ⟨Y2.heap.size, 4, none⟩ (.int .i64 (sn : Int))).setCell ⟨Y2.heap.size, 5, none⟩ (.slice (some ⟨Y3.heap.size, 0, none⟩) n n))) := FiJ.start y4 six (by obtain ⟨us, o1, o2⟩ := HCo.out; exact ⟨us, owns_mono (owns_later o1 (s3.trans (s4.mono s3.size)) (Nat.le_refl _)) y1.size, o2⟩) (row_later hrow (Below.refl Y4.heap.size Y4)) (by have := y2.size; omega) (by omega) (by obtain ⟨us, o1, o2⟩ := HCo.out; have hq := (o1.lt CB rfl); omega) (Nat.zero_le _)
          have hneC : CB ≠ Y3.heap.size := by obtain ⟨us, o1, o2⟩ := HCo.out; have hq := (o1.lt CB rfl); omega
          have hltC : CB < Y4.heap.size := by obtain ⟨us, o1, o2⟩ := HCo.out; have hq := (o1.lt CB rfl); omega
          refine wpOp_none (((((((Y4.setCell ⟨Y2.heap.size, 0, none⟩ (.slice (some ⟨b, off, none⟩) n cap)).setCell ⟨Y2.heap.size, 1, none⟩ (.slice (some ⟨B, 0, none⟩) n n)).setCell ⟨Y2.heap.size, 2, none⟩ (.slice aao an ac)).setCell ⟨Y2.heap.size, 3, none⟩ (.slice (some ⟨CB, 0, none⟩) m ccap)).setCell ⟨Y2.heap.size, 4, none⟩ (.int .i64 (sn : Int))).setCell ⟨Y2.heap.size, 5, none⟩ (.slice (some ⟨Y3.heap.size, 0, none⟩) n n))) rfl (by rfl) (by rfl) (by go_simp) (And.intro (HSx.out _ _ (by have := y2.size; omega) _ _ _ _ _ _ (HSv.out _ y4)) ?_)
          refine wpAnyH_done (by kernel_rfl) ?_ _
          have u1 : Y2.heap.size ≠ Y3.heap.size := by omega
          have u3 : w3.heap.size <= Y2.heap.size := by have := y2.size; omega
          have u4 : w3.heap.size <= Y3.heap.size := by have := y3.size; omega
          have u5 : Y2.heap.size < ((((((Y4.setCell ⟨Y2.heap.size, 0, none⟩ (.slice (some ⟨b, off, none⟩) n cap)).setCell ⟨Y2.heap.size, 1, none⟩ (.slice (some ⟨B, 0, none⟩) n n)).setCell ⟨Y2.heap.size, 2, none⟩ (.slice aao an ac)).setCell ⟨Y2.heap.size, 3, none⟩ (.slice (some ⟨CB, 0, none⟩) m ccap)).setCell ⟨Y2.heap.size, 4, none⟩ (.int .i64 (sn : Int))).setCell ⟨Y2.heap.size, 5, none⟩ (.slice (some ⟨Y3.heap.size, 0, none⟩) n n)).heap.size := by simp only [World.size_setCell]; omega
          have u6 : CB < ((((((Y4.setCell ⟨Y2.heap.size, 0, none⟩ (.slice (some ⟨b, off, none⟩) n cap)).setCell ⟨Y2.heap.size, 1, none⟩ (.slice (some ⟨B, 0, none⟩) n n)).setCell ⟨Y2.heap.size, 2, none⟩ (.slice aao an ac)).setCell ⟨Y2.heap.size, 3, none⟩ (.slice (some ⟨CB, 0, none⟩) m ccap)).setCell ⟨Y2.heap.size, 4, none⟩ (.int .i64 (sn : Int))).setCell ⟨Y2.heap.size, 5, none⟩ (.slice (some ⟨Y3.heap.size, 0, none⟩) n n)).heap.size := by simp only [World.size_setCell]; omega
          have u7 : Y3.heap.size < ((((((Y4.setCell ⟨Y2.heap.size, 0, none⟩ (.slice (some ⟨b, off, none⟩) n cap)).setCell ⟨Y2.heap.size, 1, none⟩ (.slice (some ⟨B, 0, none⟩) n n)).setCell ⟨Y2.heap.size, 2, none⟩ (.slice aao an ac)).setCell ⟨Y2.heap.size, 3, none⟩ (.slice (some ⟨CB, 0, none⟩) m ccap)).setCell ⟨Y2.heap.size, 4, none⟩ (.int .i64 (sn : Int))).setCell ⟨Y2.heap.size, 5, none⟩ (.slice (some ⟨Y3.heap.size, 0, none⟩) n n)).heap.size := by simp only [World.size_setCell]; omega
          show FiRel _ _ _ _ _ _ _ _ _ _ _ _ _ _ _ _
          exact firel_mk (Y2.heap.size) CB ccap (Y3.heap.size) u1 hneC u3 u4 u5 u6 u7 HF.out
      · skip
        refine wpOp_new (some 56) (.cells (madeCells #[.slice none 0 0] n) 60) (.slice (some ⟨Y1.heap.size, 0, none⟩) n n) rfl (by rfl) (by rfl) (by go_simp) ?_
        intro Y2 e2; have s2 : Below Y1.heap.size Y1 Y2 := by rw [e2]; exact (Below.refl _ _).alloc (Nat.le_refl _) _
        have z2 : Y1.heap.size < Y2.heap.size := by rw [e2]; simp
        have y2 : Below w3.heap.size w3 Y2 := y1.trans (s2.mono y1.size); have hrow : Y2.rowIs Y1.heap.size 60 n (fun _ => .slice none 0 0) := by rw [e2]; exact World.rowIs_made _ _ _ _
        refine And.intro (HSv.out _ y2) ?_
        clear e2; simp only [Act.put, List.setIfInBounds_toArray, List.set_cons_succ, List.set_cons_zero]; refine wpAnyH_all (rs := [8, 16]) (by kernel_rfl) (by decide) ?_
        refine all_two ?_ ?_
        · skip
          have hco := concat_own Y0.heap.size _ _ ss ll w Y2 (hbw3.trans (y2.mono hbw3.size)) h12 hl12 h1 HS.out HL.out ((s2.cell (p := ⟨Y0.heap.size, 0, none⟩) (by show Y0.heap.size < _; omega)).trans g0) ((s2.cell (p := ⟨Y0.heap.size, 1, none⟩) (by show Y0.heap.size < _; omega)).trans g1)
          rw [<- HSn.out, <- HLn.out, <- HM.out] at hco; refine wpOp_two (some 50) (fun CB ccap => .slice (some ⟨CB, 0, none⟩) m ccap) _ rfl (by rfl) (by rfl) (by go_simp) hco ?_
          intro CB ccap Y3 hR; have s3 := hR.1; have HCo := hR.2; clear hco hR; have z3 : Y2.heap.size <= Y3.heap.size := s3.size; have y3 : Below w3.heap.size w3 Y3 := y2.trans (s3.mono y2.size); refine And.intro (HSv.out _ y3) ?_
          simp only [Act.put, List.setIfInBounds_toArray, List.set_cons_succ, List.set_cons_zero]
          refine take_at (i := 15) (v := .agg #[.slice (some ⟨b, off, none⟩) n cap, .slice (some ⟨B, 0, none⟩) n n, .slice aao an ac, .slice (some ⟨CB, 0, none⟩) m ccap, .int .i64 (sn : Int), .slice (some ⟨Y1.heap.size, 0, none⟩) n n]) (some 57) rfl (by rfl) (by kernel_rfl) (by kernel_rfl) (by kernel_rfl) (fun _ _ _ h => h) (Or.inl ⟨by rfl, fun wq hSw => by obtain ⟨q0, q1⟩ := hSw; go_simp⟩) (HSv.out _ y3) ?_
          simp only [Act.put, List.setIfInBounds_toArray, List.set_cons_succ, List.set_cons_zero]; refine wpAnyH_all (rs := [16]) (by kernel_rfl) (by decide) ?_
          refine all_one ?_
          refine wpOp_new (some 12) (.cells #[.slice none 0 0, .slice none 0 0, .slice none 0 0, .slice none 0 0, .int .i64 0, .slice none 0 0] 131) (.pointer (some ⟨Y3.heap.size, 0, none⟩)) rfl (by rfl) (by rfl) (by go_simp) ?_
          intro Y4 e4; have s4 : Below Y3.heap.size Y3 Y4 := by rw [e4]; exact (Below.refl _ _).alloc (Nat.le_refl _) _
          have z4 : Y3.heap.size < Y4.heap.size := by rw [e4]; simp
          have y4 : Below w3.heap.size w3 Y4 := y3.trans (s4.mono y3.size); have h6n : Six Y4 Y3.heap.size (.slice none 0 0) (.slice none 0 0) (.slice none 0 0) (.slice none 0 0) (.int .i64 0) (.slice none 0 0) := by rw [e4]; exact Six.new _ _ _ _ _ _ _ _
          refine And.intro (HSv.out _ y4) ?_
          clear e4; simp only [Act.put, List.setIfInBounds_toArray, List.set_cons_succ, List.set_cons_zero]; have six := h6n.below (Below.refl Y4.heap.size Y4) h6n.hl; have k0 := six.k0; have f0 := six.f0; have k1 := six.k1; have f1 := six.f1; have k2 := six.k2; have f2 := six.f2; have k3 := six.k3; have f3 := six.f3; have k4 := six.k4; have f4 := six.f4; have k5 := six.k5
          have f5 := six.f5; have hsl := six.hl; refine wpAnyH_all (rs := [17]) (by kernel_rfl) (by decide) ?_
          refine all_one ?_
          have HF : Hid (FiJ w w3 b off n cap B aao an ac m sn (ss ++ ll) t (Y3.heap.size) CB ccap (Y1.heap.size) 0 0 ((((((Y4.setCell ⟨Y3.heap.size, 0, none⟩ (.slice (some ⟨b, off, none⟩) n cap)).setCell ⟨Y3.heap.size, 1, none⟩ (.slice (some ⟨B, 0, none⟩) n n)).setCell ⟨Y3.heap.size, 2, none⟩ (.slice aao an ac)).setCell ⟨Y3.heap.size, 3, none⟩ (.slice (some ⟨CB, 0, none⟩) m ccap)).setCell ⟨Y3.heap.size, 4, none⟩ (.int .i64 (sn : Int))).setCell ⟨Y3.heap.size, 5, none⟩ (.slice (some ⟨Y1.heap.size, 0, none⟩) n n))) := FiJ.start y4 six (by obtain ⟨us, o1, o2⟩ := HCo.out; exact ⟨us, owns_mono (owns_later o1 s4 (Nat.le_refl _)) y2.size, o2⟩) (row_later hrow (s3.trans (s4.mono s3.size))) (by have := y3.size; omega) (by omega) (by obtain ⟨us, o1, o2⟩ := HCo.out; have hq := (o1.lt CB rfl); omega) (Nat.zero_le _)
          have hneC : CB ≠ Y1.heap.size := by obtain ⟨us, o1, o2⟩ := HCo.out; have hq := (o1.lt CB rfl); omega
          have hltC : CB < Y4.heap.size := by obtain ⟨us, o1, o2⟩ := HCo.out; have hq := (o1.lt CB rfl); omega
          refine wpOp_none (((((((Y4.setCell ⟨Y3.heap.size, 0, none⟩ (.slice (some ⟨b, off, none⟩) n cap)).setCell ⟨Y3.heap.size, 1, none⟩ (.slice (some ⟨B, 0, none⟩) n n)).setCell ⟨Y3.heap.size, 2, none⟩ (.slice aao an ac)).setCell ⟨Y3.heap.size, 3, none⟩ (.slice (some ⟨CB, 0, none⟩) m ccap)).setCell ⟨Y3.heap.size, 4, none⟩ (.int .i64 (sn : Int))).setCell ⟨Y3.heap.size, 5, none⟩ (.slice (some ⟨Y1.heap.size, 0, none⟩) n n))) rfl (by rfl) (by rfl) (by go_simp) (And.intro (HSx.out _ _ (by have := y3.size; omega) _ _ _ _ _ _ (HSv.out _ y4)) ?_)
          refine wpAnyH_done (by kernel_rfl) ?_ _
          have u1 : Y3.heap.size ≠ Y1.heap.size := by omega
          have u3 : w3.heap.size <= Y3.heap.size := by have := y3.size; omega
          have u4 : w3.heap.size <= Y1.heap.size := by have := y1.size; omega
          have u5 : Y3.heap.size < ((((((Y4.setCell ⟨Y3.heap.size, 0, none⟩ (.slice (some ⟨b, off, none⟩) n cap)).setCell ⟨Y3.heap.size, 1, none⟩ (.slice (some ⟨B, 0, none⟩) n n)).setCell ⟨Y3.heap.size, 2, none⟩ (.slice aao an ac)).setCell ⟨Y3.heap.size, 3, none⟩ (.slice (some ⟨CB, 0, none⟩) m ccap)).setCell ⟨Y3.heap.size, 4, none⟩ (.int .i64 (sn : Int))).setCell ⟨Y3.heap.size, 5, none⟩ (.slice (some ⟨Y1.heap.size, 0, none⟩) n n)).heap.size := by simp only [World.size_setCell]; omega
          have u6 : CB < ((((((Y4.setCell ⟨Y3.heap.size, 0, none⟩ (.slice (some ⟨b, off, none⟩) n cap)).setCell ⟨Y3.heap.size, 1, none⟩ (.slice (some ⟨B, 0, none⟩) n n)).setCell ⟨Y3.heap.size, 2, none⟩ (.slice aao an ac)).setCell ⟨Y3.heap.size, 3, none⟩ (.slice (some ⟨CB, 0, none⟩) m ccap)).setCell ⟨Y3.heap.size, 4, none⟩ (.int .i64 (sn : Int))).setCell ⟨Y3.heap.size, 5, none⟩ (.slice (some ⟨Y1.heap.size, 0, none⟩) n n)).heap.size := by simp only [World.size_setCell]; omega
          have u7 : Y1.heap.size < ((((((Y4.setCell ⟨Y3.heap.size, 0, none⟩ (.slice (some ⟨b, off, none⟩) n cap)).setCell ⟨Y3.heap.size, 1, none⟩ (.slice (some ⟨B, 0, none⟩) n n)).setCell ⟨Y3.heap.size, 2, none⟩ (.slice aao an ac)).setCell ⟨Y3.heap.size, 3, none⟩ (.slice (some ⟨CB, 0, none⟩) m ccap)).setCell ⟨Y3.heap.size, 4, none⟩ (.int .i64 (sn : Int))).setCell ⟨Y3.heap.size, 5, none⟩ (.slice (some ⟨Y1.heap.size, 0, none⟩) n n)).heap.size := by simp only [World.size_setCell]; omega
          show FiRel _ _ _ _ _ _ _ _ _ _ _ _ _ _ _ _
          exact firel_mk (Y3.heap.size) CB ccap (Y1.heap.size) u1 hneC u3 u4 u5 u6 u7 HF.out
        · skip
          refine wpOp_new (some 12) (.cells #[.slice none 0 0, .slice none 0 0, .slice none 0 0, .slice none 0 0, .int .i64 0, .slice none 0 0] 131) (.pointer (some ⟨Y2.heap.size, 0, none⟩)) rfl (by rfl) (by rfl) (by go_simp) ?_
          intro Y3 e3; have s3 : Below Y2.heap.size Y2 Y3 := by rw [e3]; exact (Below.refl _ _).alloc (Nat.le_refl _) _
          have z3 : Y2.heap.size < Y3.heap.size := by rw [e3]; simp
          have y3 : Below w3.heap.size w3 Y3 := y2.trans (s3.mono y2.size); have h6n : Six Y3 Y2.heap.size (.slice none 0 0) (.slice none 0 0) (.slice none 0 0) (.slice none 0 0) (.int .i64 0) (.slice none 0 0) := by rw [e3]; exact Six.new _ _ _ _ _ _ _ _
          refine And.intro (HSv.out _ y3) ?_
          clear e3; simp only [Act.put, List.setIfInBounds_toArray, List.set_cons_succ, List.set_cons_zero]; refine wpAnyH_all (rs := [8]) (by kernel_rfl) (by decide) ?_
          refine all_one ?_
          have hco := concat_own Y0.heap.size _ _ ss ll w Y3 (hbw3.trans (y3.mono hbw3.size)) h12 hl12 h1 HS.out HL.out (((s2.trans (s3.mono s2.size)).cell (p := ⟨Y0.heap.size, 0, none⟩) (by show Y0.heap.size < _; omega)).trans g0) (((s2.trans (s3.mono s2.size)).cell (p := ⟨Y0.heap.size, 1, none⟩) (by show Y0.heap.size < _; omega)).trans g1)
          rw [<- HSn.out, <- HLn.out, <- HM.out] at hco; refine wpOp_two (some 50) (fun CB ccap => .slice (some ⟨CB, 0, none⟩) m ccap) _ rfl (by rfl) (by rfl) (by go_simp) hco ?_
          intro CB ccap Y4 hR; have s4 := hR.1; have HCo := hR.2; clear hco hR; have z4 : Y3.heap.size <= Y4.heap.size := s4.size; have y4 : Below w3.heap.size w3 Y4 := y3.trans (s4.mono y3.size); refine And.intro (HSv.out _ y4) ?_
          simp only [Act.put, List.setIfInBounds_toArray, List.set_cons_succ, List.set_cons_zero]
          refine take_at (i := 15) (v := .agg #[.slice (some ⟨b, off, none⟩) n cap, .slice (some ⟨B, 0, none⟩) n n, .slice aao an ac, .slice (some ⟨CB, 0, none⟩) m ccap, .int .i64 (sn : Int), .slice (some ⟨Y1.heap.size, 0, none⟩) n n]) (some 57) rfl (by rfl) (by kernel_rfl) (by kernel_rfl) (by kernel_rfl) (fun _ _ _ h => h) (Or.inl ⟨by rfl, fun wq hSw => by obtain ⟨q0, q1⟩ := hSw; go_simp⟩) (HSv.out _ y4) ?_
          simp only [Act.put, List.setIfInBounds_toArray, List.set_cons_succ, List.set_cons_zero]; have six := h6n.below s4 h6n.hl; have k0 := six.k0; have f0 := six.f0; have k1 := six.k1; have f1 := six.f1; have k2 := six.k2; have f2 := six.f2; have k3 := six.k3; have f3 := six.f3; have k4 := six.k4; have f4 := six.f4; have k5 := six.k5; have f5 := six.f5; have hsl := six.hl
          refine wpAnyH_all (rs := [17]) (by kernel_rfl) (by decide) ?_
          refine all_one ?_
          have HF : Hid (FiJ w w3 b off n cap B aao an ac m sn (ss ++ ll) t (Y2.heap.size) CB ccap (Y1.heap.size) 0 0 ((((((Y4.setCell ⟨Y2.heap.size, 0, none⟩ (.slice (some ⟨b, off, none⟩) n cap)).setCell ⟨Y2.heap.size, 1, none⟩ (.slice (some ⟨B, 0, none⟩) n n)).setCell ⟨Y2.heap.size, 2, none⟩ (.slice aao an ac)).setCell ⟨Y2.heap.size, 3, none⟩ (.slice (some ⟨CB, 0, none⟩) m ccap)).setCell ⟨Y2.heap.size, 4, none⟩ (.int .i64 (sn : Int))).setCell ⟨Y2.heap.size, 5, none⟩ (.slice (some ⟨Y1.heap.size, 0, none⟩) n n))) := FiJ.start y4 six (by obtain ⟨us, o1, o2⟩ := HCo.out; exact ⟨us, owns_mono (owns_later o1 (Below.refl Y4.heap.size Y4) (Nat.le_refl _)) y3.size, o2⟩) (row_later hrow (s3.trans (s4.mono s3.size))) (by have := y2.size; omega) (by omega) (by obtain ⟨us, o1, o2⟩ := HCo.out; have hq := (o1.lt CB rfl); omega) (Nat.zero_le _)
          have hneC : CB ≠ Y1.heap.size := by obtain ⟨us, o1, o2⟩ := HCo.out; have hq := (o1.lt CB rfl); omega
          have hltC : CB < Y4.heap.size := by obtain ⟨us, o1, o2⟩ := HCo.out; have hq := (o1.lt CB rfl); omega
          refine wpOp_none (((((((Y4.setCell ⟨Y2.heap.size, 0, none⟩ (.slice (some ⟨b, off, none⟩) n cap)).setCell ⟨Y2.heap.size, 1, none⟩ (.slice (some ⟨B, 0, none⟩) n n)).setCell ⟨Y2.heap.size, 2, none⟩ (.slice aao an ac)).setCell ⟨Y2.heap.size, 3, none⟩ (.slice (some ⟨CB, 0, none⟩) m ccap)).setCell ⟨Y2.heap.size, 4, none⟩ (.int .i64 (sn : Int))).setCell ⟨Y2.heap.size, 5, none⟩ (.slice (some ⟨Y1.heap.size, 0, none⟩) n n))) rfl (by rfl) (by rfl) (by go_simp) (And.intro (HSx.out _ _ (by have := y2.size; omega) _ _ _ _ _ _ (HSv.out _ y4)) ?_)
          refine wpAnyH_done (by kernel_rfl) ?_ _
          have u1 : Y2.heap.size ≠ Y1.heap.size := by omega
          have u3 : w3.heap.size <= Y2.heap.size := by have := y2.size; omega
          have u4 : w3.heap.size <= Y1.heap.size := by have := y1.size; omega
          have u5 : Y2.heap.size < ((((((Y4.setCell ⟨Y2.heap.size, 0, none⟩ (.slice (some ⟨b, off, none⟩) n cap)).setCell ⟨Y2.heap.size, 1, none⟩ (.slice (some ⟨B, 0, none⟩) n n)).setCell ⟨Y2.heap.size, 2, none⟩ (.slice aao an ac)).setCell ⟨Y2.heap.size, 3, none⟩ (.slice (some ⟨CB, 0, none⟩) m ccap)).setCell ⟨Y2.heap.size, 4, none⟩ (.int .i64 (sn : Int))).setCell ⟨Y2.heap.size, 5, none⟩ (.slice (some ⟨Y1.heap.size, 0, none⟩) n n)).heap.size := by simp only [World.size_setCell]; omega
          have u6 : CB < ((((((Y4.setCell ⟨Y2.heap.size, 0, none⟩ (.slice (some ⟨b, off, none⟩) n cap)).setCell ⟨Y2.heap.size, 1, none⟩ (.slice (some ⟨B, 0, none⟩) n n)).setCell ⟨Y2.heap.size, 2, none⟩ (.slice aao an ac)).setCell ⟨Y2.heap.size, 3, none⟩ (.slice (some ⟨CB, 0, none⟩) m ccap)).setCell ⟨Y2.heap.size, 4, none⟩ (.int .i64 (sn : Int))).setCell ⟨Y2.heap.size, 5, none⟩ (.slice (some ⟨Y1.heap.size, 0, none⟩) n n)).heap.size := by simp only [World.size_setCell]; omega
          have u7 : Y1.heap.size < ((((((Y4.setCell ⟨Y2.heap.size, 0, none⟩ (.slice (some ⟨b, off, none⟩) n cap)).setCell ⟨Y2.heap.size, 1, none⟩ (.slice (some ⟨B, 0, none⟩) n n)).setCell ⟨Y2.heap.size, 2, none⟩ (.slice aao an ac)).setCell ⟨Y2.heap.size, 3, none⟩ (.slice (some ⟨CB, 0, none⟩) m ccap)).setCell ⟨Y2.heap.size, 4, none⟩ (.int .i64 (sn : Int))).setCell ⟨Y2.heap.size, 5, none⟩ (.slice (some ⟨Y1.heap.size, 0, none⟩) n n)).heap.size := by simp only [World.size_setCell]; omega
          show FiRel _ _ _ _ _ _ _ _ _ _ _ _ _ _ _ _
          exact firel_mk (Y2.heap.size) CB ccap (Y1.heap.size) u1 hneC u3 u4 u5 u6 u7 HF.out
      · skip
        refine wpOp_new (some 12) (.cells #[.slice none 0 0, .slice none 0 0, .slice none 0 0, .slice none 0 0, .int .i64 0, .slice none 0 0] 131) (.pointer (some ⟨Y1.heap.size, 0, none⟩)) rfl (by rfl) (by rfl) (by go_simp) ?_
        intro Y2 e2; have s2 : Below Y1.heap.size Y1 Y2 := by rw [e2]; exact (Below.refl _ _).alloc (Nat.le_refl _) _
        have z2 : Y1.heap.size < Y2.heap.size := by rw [e2]; simp
        have y2 : Below w3.heap.size w3 Y2 := y1.trans (s2.mono y1.size); have h6n : Six Y2 Y1.heap.size (.slice none 0 0) (.slice none 0 0) (.slice none 0 0) (.slice none 0 0) (.int .i64 0) (.slice none 0 0) := by rw [e2]; exact Six.new _ _ _ _ _ _ _ _
        refine And.intro (HSv.out _ y2) ?_
        clear e2; simp only [Act.put, List.setIfInBounds_toArray, List.set_cons_succ, List.set_cons_zero]; refine wpAnyH_all (rs := [8, 14]) (by kernel_rfl) (by decide) ?_
        refine all_two ?_ ?_
        · skip
          have hco := concat_own Y0.heap.size _ _ ss ll w Y2 (hbw3.trans (y2.mono hbw3.size)) h12 hl12 h1 HS.out HL.out ((s2.cell (p := ⟨Y0.heap.size, 0, none⟩) (by show Y0.heap.size < _; omega)).trans g0) ((s2.cell (p := ⟨Y0.heap.size, 1, none⟩) (by show Y0.heap.size < _; omega)).trans g1)
          rw [<- HSn.out, <- HLn.out, <- HM.out] at hco; refine wpOp_two (some 50) (fun CB ccap => .slice (some ⟨CB, 0, none⟩) m ccap) _ rfl (by rfl) (by rfl) (by go_simp) hco ?_
          intro CB ccap Y3 hR; have s3 := hR.1; have HCo := hR.2; clear hco hR; have z3 : Y2.heap.size <= Y3.heap.size := s3.size; have y3 : Below w3.heap.size w3 Y3 := y2.trans (s3.mono y2.size); refine And.intro (HSv.out _ y3) ?_
          simp only [Act.put, List.setIfInBounds_toArray, List.set_cons_succ, List.set_cons_zero]; refine wpAnyH_all (rs := [14]) (by kernel_rfl) (by decide) ?_
          refine all_one ?_
          refine wpOp_new (some 56) (.cells (madeCells #[.slice none 0 0] n) 60) (.slice (some ⟨Y3.heap.size, 0, none⟩) n n) rfl (by rfl) (by rfl) (by go_simp) ?_
          intro Y4 e4; have s4 : Below Y3.heap.size Y3 Y4 := by rw [e4]; exact (Below.refl _ _).alloc (Nat.le_refl _) _
          have z4 : Y3.heap.size < Y4.heap.size := by rw [e4]; simp
          have y4 : Below w3.heap.size w3 Y4 := y3.trans (s4.mono y3.size); have hrow : Y4.rowIs Y3.heap.size 60 n (fun _ => .slice none 0 0) := by rw [e4]; exact World.rowIs_made _ _ _ _
          refine And.intro (HSv.out _ y4) ?_
          clear e4; simp only [Act.put, List.setIfInBounds_toArray, List.set_cons_succ, List.set_cons_zero]
          refine take_at (i := 15) (v := .agg #[.slice (some ⟨b, off, none⟩) n cap, .slice (some ⟨B, 0, none⟩) n n, .slice aao an ac, .slice (some ⟨CB, 0, none⟩) m ccap, .int .i64 (sn : Int), .slice (some ⟨Y3.heap.size, 0, none⟩) n n]) (some 57) rfl (by rfl) (by kernel_rfl) (by kernel_rfl) (by kernel_rfl) (fun _ _ _ h => h) (Or.inl ⟨by rfl, fun wq hSw => by obtain ⟨q0, q1⟩ := hSw; go_simp⟩) (HSv.out _ y4) ?_
          simp only [Act.put, List.setIfInBounds_toArray, List.set_cons_succ, List.set_cons_zero]; have six := h6n.below (s3.trans (s4.mono s3.size)) h6n.hl; have k0 := six.k0; have f0 := six.f0; have k1 := six.k1; have f1 := six.f1; have k2 := six.k2; have f2 := six.f2; have k3 := six.k3; have f3 := six.f3; have k4 := six.k4; have f4 := six.f4; have k5 := six.k5; have f5 := six.f5
          have hsl := six.hl; refine wpAnyH_all (rs := [17]) (by kernel_rfl) (by decide) ?_
          refine all_one ?_
          have HF : Hid (FiJ w w3 b off n cap B aao an ac m sn (ss ++ ll) t (Y1.heap.size) CB ccap (Y3.heap.size) 0 0 ((((((Y4.setCell ⟨Y1.heap.size, 0, none⟩ (.slice (some ⟨b, off, none⟩) n cap)).setCell ⟨Y1.heap.size, 1, none⟩ (.slice (some ⟨B, 0, none⟩) n n)).setCell ⟨Y1.heap.size, 2, none⟩ (.slice aao an ac)).setCell ⟨Y1.heap.size, 3, none⟩ (.slice (some ⟨CB, 0, none⟩) m ccap)).setCell ⟨Y1.heap.size, 4, none⟩ (.int .i64 (sn : Int))).setCell ⟨Y1.heap.size, 5, none⟩ (.slice (some ⟨Y3.heap.size, 0, none⟩) n n))) := FiJ.start y4 six (by obtain ⟨us, o1, o2⟩ := HCo.out; exact ⟨us, owns_mono (owns_later o1 s4 (Nat.le_refl _)) y2.size, o2⟩) (row_later hrow (Below.refl Y4.heap.size Y4)) (by have := y1.size; omega) (by omega) (by obtain ⟨us, o1, o2⟩ := HCo.out; have hq := (o1.lt CB rfl); omega) (Nat.zero_le _)
          have hneC : CB ≠ Y3.heap.size := by obtain ⟨us, o1, o2⟩ := HCo.out; have hq := (o1.lt CB rfl); omega
          have hltC : CB < Y4.heap.size := by obtain ⟨us, o1, o2⟩ := HCo.out; have hq := (o1.lt CB rfl); omega
          refine wpOp_none (((((((Y4.setCell ⟨Y1.heap.size, 0, none⟩ (.slice (some ⟨b, off, none⟩) n cap)).setCell ⟨Y1.heap.size, 1, none⟩ (.slice (some ⟨B, 0, none⟩) n n)).setCell ⟨Y1.heap.size, 2, none⟩ (.slice aao an ac)).setCell ⟨Y1.heap.size, 3, none⟩ (.slice (some ⟨CB, 0, none⟩) m ccap)).setCell ⟨Y1.heap.size, 4, none⟩ (.int .i64 (sn : Int))).setCell ⟨Y1.heap.size, 5, none⟩ (.slice (some ⟨Y3.heap.size, 0, none⟩) n n))) rfl (by rfl) (by rfl) (by go_simp) (And.intro (HSx.out _ _ (by have := y1.size; omega) _ _ _ _ _ _ (HSv.out _ y4)) ?_)
          refine wpAnyH_done (by kernel_rfl) ?_ _
          have u1 : Y1.heap.size ≠ Y3.heap.size := by omega
          have u3 : w3.heap.size <= Y1.heap.size := by have := y1.size; omega
          have u4 : w3.heap.size <= Y3.heap.size := by have := y3.size; omega
          have u5 : Y1.heap.size < ((((((Y4.setCell ⟨Y1.heap.size, 0, none⟩ (.slice (some ⟨b, off, none⟩) n cap)).setCell ⟨Y1.heap.size, 1, none⟩ (.slice (some ⟨B, 0, none⟩) n n)).setCell ⟨Y1.heap.size, 2, none⟩ (.slice aao an ac)).setCell ⟨Y1.heap.size, 3, none⟩ (.slice (some ⟨CB, 0, none⟩) m ccap)).setCell ⟨Y1.heap.size, 4, none⟩ (.int .i64 (sn : Int))).setCell ⟨Y1.heap.size, 5, none⟩ (.slice (some ⟨Y3.heap.size, 0, none⟩) n n)).heap.size := by simp only [World.size_setCell]; omega
          have u6 : CB < ((((((Y4.setCell ⟨Y1.heap.size, 0, none⟩ (.slice (some ⟨b, off, none⟩) n cap)).setCell ⟨Y1.heap.size, 1, none⟩ (.slice (some ⟨B, 0, none⟩) n n)).setCell ⟨Y1.heap.size, 2, none⟩ (.slice aao an ac)).setCell ⟨Y1.heap.size, 3, none⟩ (.slice (some ⟨CB, 0, none⟩) m ccap)).setCell ⟨Y1.heap.size, 4, none⟩ (.int .i64 (sn : Int))).setCell ⟨Y1.heap.size, 5, none⟩ (.slice (some ⟨Y3.heap.size, 0, none⟩) n n)).heap.size := by simp only [World.size_setCell]; omega
          have u7 : Y3.heap.size < ((((((Y4.setCell ⟨Y1.heap.size, 0, none⟩ (.slice (some ⟨b, off, none⟩) n cap)).setCell ⟨Y1.heap.size, 1, none⟩ (.slice (some ⟨B, 0, none⟩) n n)).setCell ⟨Y1.heap.size, 2, none⟩ (.slice aao an ac)).setCell ⟨Y1.heap.size, 3, none⟩ (.slice (some ⟨CB, 0, none⟩) m ccap)).setCell ⟨Y1.heap.size, 4, none⟩ (.int .i64 (sn : Int))).setCell ⟨Y1.heap.size, 5, none⟩ (.slice (some ⟨Y3.heap.size, 0, none⟩) n n)).heap.size := by simp only [World.size_setCell]; omega
          show FiRel _ _ _ _ _ _ _ _ _ _ _ _ _ _ _ _
          exact firel_mk (Y1.heap.size) CB ccap (Y3.heap.size) u1 hneC u3 u4 u5 u6 u7 HF.out
        · skip
          refine wpOp_new (some 56) (.cells (madeCells #[.slice none 0 0] n) 60) (.slice (some ⟨Y2.heap.size, 0, none⟩) n n) rfl (by rfl) (by rfl) (by go_simp) ?_
          intro Y3 e3; have s3 : Below Y2.heap.size Y2 Y3 := by rw [e3]; exact (Below.refl _ _).alloc (Nat.le_refl _) _
          have z3 : Y2.heap.size < Y3.heap.size := by rw [e3]; simp
          have y3 : Below w3.heap.size w3 Y3 := y2.trans (s3.mono y2.size); have hrow : Y3.rowIs Y2.heap.size 60 n (fun _ => .slice none 0 0) := by rw [e3]; exact World.rowIs_made _ _ _ _
          refine And.intro (HSv.out _ y3) ?_
          clear e3; simp only [Act.put, List.setIfInBounds_toArray, List.set_cons_succ, List.set_cons_zero]; refine wpAnyH_all (rs := [8]) (by kernel_rfl) (by decide) ?_
          refine all_one ?_
          have hco := concat_own Y0.heap.size _ _ ss ll w Y3 (hbw3.trans (y3.mono hbw3.size)) h12 hl12 h1 HS.out HL.out (((s2.trans (s3.mono s2.size)).cell (p := ⟨Y0.heap.size, 0, none⟩) (by show Y0.heap.size < _; omega)).trans g0) (((s2.trans (s3.mono s2.size)).cell (p := ⟨Y0.heap.size, 1, none⟩) (by show Y0.heap.size < _; omega)).trans g1)
          rw [<- HSn.out, <- HLn.out, <- HM.out] at hco; refine wpOp_two (some 50) (fun CB ccap => .slice (some ⟨CB, 0, none⟩) m ccap) _ rfl (by rfl) (by rfl) (by go_simp) hco ?_
          intro CB ccap Y4 hR; have s4 := hR.1; have HCo := hR.2; clear hco hR; have z4 : Y3.heap.size <= Y4.heap.size := s4.size; have y4 : Below w3.heap.size w3 Y4 := y3.trans (s4.mono y3.size); refine And.intro (HSv.out _ y4) ?_
          simp only [Act.put, List.setIfInBounds_toArray, List.set_cons_succ, List.set_cons_zero]
          refine take_at (i := 15) (v := .agg #[.slice (some ⟨b, off, none⟩) n cap, .slice (some ⟨B, 0, none⟩) n n, .slice aao an ac, .slice (some ⟨CB, 0, none⟩) m ccap, .int .i64 (sn : Int), .slice (some ⟨Y2.heap.size, 0, none⟩) n n]) (some 57) rfl (by rfl) (by kernel_rfl) (by kernel_rfl) (by kernel_rfl) (fun _ _ _ h => h) (Or.inl ⟨by rfl, fun wq hSw => by obtain ⟨q0, q1⟩ := hSw; go_simp⟩) (HSv.out _ y4) ?_
          simp only [Act.put, List.setIfInBounds_toArray, List.set_cons_succ, List.set_cons_zero]; have six := h6n.below (s3.trans (s4.mono s3.size)) h6n.hl; have k0 := six.k0; have f0 := six.f0; have k1 := six.k1; have f1 := six.f1; have k2 := six.k2; have f2 := six.f2; have k3 := six.k3; have f3 := six.f3; have k4 := six.k4; have f4 := six.f4; have k5 := six.k5; have f5 := six.f5
          have hsl := six.hl; refine wpAnyH_all (rs := [17]) (by kernel_rfl) (by decide) ?_
          refine all_one ?_
          have HF : Hid (FiJ w w3 b off n cap B aao an ac m sn (ss ++ ll) t (Y1.heap.size) CB ccap (Y2.heap.size) 0 0 ((((((Y4.setCell ⟨Y1.heap.size, 0, none⟩ (.slice (some ⟨b, off, none⟩) n cap)).setCell ⟨Y1.heap.size, 1, none⟩ (.slice (some ⟨B, 0, none⟩) n n)).setCell ⟨Y1.heap.size, 2, none⟩ (.slice aao an ac)).setCell ⟨Y1.heap.size, 3, none⟩ (.slice (some ⟨CB, 0, none⟩) m ccap)).setCell ⟨Y1.heap.size, 4, none⟩ (.int .i64 (sn : Int))).setCell ⟨Y1.heap.size, 5, none⟩ (.slice (some ⟨Y2.heap.size, 0, none⟩) n n))) := FiJ.start y4 six (by obtain ⟨us, o1, o2⟩ := HCo.out; exact ⟨us, owns_mono (owns_later o1 (Below.refl Y4.heap.size Y4) (Nat.le_refl _)) y3.size, o2⟩) (row_later hrow s4) (by have := y1.size; omega) (by omega) (by obtain ⟨us, o1, o2⟩ := HCo.out; have hq := (o1.lt CB rfl); omega) (Nat.zero_le _)
          have hneC : CB ≠ Y2.heap.size := by obtain ⟨us, o1, o2⟩ := HCo.out; have hq := (o1.lt CB rfl); omega
          have hltC : CB < Y4.heap.size := by obtain ⟨us, o1, o2⟩ := HCo.out; have hq := (o1.lt CB rfl); omega
          refine wpOp_none (((((((Y4.setCell ⟨Y1.heap.size, 0, none⟩ (.slice (some ⟨b, off, none⟩) n cap)).setCell ⟨Y1.heap.size, 1, none⟩ (.slice (some ⟨B, 0, none⟩) n n)).setCell ⟨Y1.heap.size, 2, none⟩ (.slice aao an ac)).setCell ⟨Y1.heap.size, 3, none⟩ (.slice (some ⟨CB, 0, none⟩) m ccap)).setCell ⟨Y1.heap.size, 4, none⟩ (.int .i64 (sn : Int))).setCell ⟨Y1.heap.size, 5, none⟩ (.slice (some ⟨Y2.heap.size, 0, none⟩) n n))) rfl (by rfl) (by rfl) (by go_simp) (And.intro (HSx.out _ _ (by have := y1.size; omega) _ _ _ _ _ _ (HSv.out _ y4)) ?_)
          refine wpAnyH_done (by kernel_rfl) ?_ _
          have u1 : Y1.heap.size ≠ Y2.heap.size := by omega
          have u3 : w3.heap.size <= Y1.heap.size := by have := y1.size; omega
          have u4 : w3.heap.size <= Y2.heap.size := by have := y2.size; omega
          have u5 : Y1.heap.size < ((((((Y4.setCell ⟨Y1.heap.size, 0, none⟩ (.slice (some ⟨b, off, none⟩) n cap)).setCell ⟨Y1.heap.size, 1, none⟩ (.slice (some ⟨B, 0, none⟩) n n)).setCell ⟨Y1.heap.size, 2, none⟩ (.slice aao an ac)).setCell ⟨Y1.heap.size, 3, none⟩ (.slice (some ⟨CB, 0, none⟩) m ccap)).setCell ⟨Y1.heap.size, 4, none⟩ (.int .i64 (sn : Int))).setCell ⟨Y1.heap.size, 5, none⟩ (.slice (some ⟨Y2.heap.size, 0, none⟩) n n)).heap.size := by simp only [World.size_setCell]; omega
          have u6 : CB < ((((((Y4.setCell ⟨Y1.heap.size, 0, none⟩ (.slice (some ⟨b, off, none⟩) n cap)).setCell ⟨Y1.heap.size, 1, none⟩ (.slice (some ⟨B, 0, none⟩) n n)).setCell ⟨Y1.heap.size, 2, none⟩ (.slice aao an ac)).setCell ⟨Y1.heap.size, 3, none⟩ (.slice (some ⟨CB, 0, none⟩) m ccap)).setCell ⟨Y1.heap.size, 4, none⟩ (.int .i64 (sn : Int))).setCell ⟨Y1.heap.size, 5, none⟩ (.slice (some ⟨Y2.heap.size, 0, none⟩) n n)).heap.size := by simp only [World.size_setCell]; omega
          have u7 : Y2.heap.size < ((((((Y4.setCell ⟨Y1.heap.size, 0, none⟩ (.slice (some ⟨b, off, none⟩) n cap)).setCell ⟨Y1.heap.size, 1, none⟩ (.slice (some ⟨B, 0, none⟩) n n)).setCell ⟨Y1.heap.size, 2, none⟩ (.slice aao an ac)).setCell ⟨Y1.heap.size, 3, none⟩ (.slice (some ⟨CB, 0, none⟩) m ccap)).setCell ⟨Y1.heap.size, 4, none⟩ (.int .i64 (sn : Int))).setCell ⟨Y1.heap.size, 5, none⟩ (.slice (some ⟨Y2.heap.size, 0, none⟩) n n)).heap.size := by simp only [World.size_setCell]; omega
          show FiRel _ _ _ _ _ _ _ _ _ _ _ _ _ _ _ _
          exact firel_mk (Y1.heap.size) CB ccap (Y2.heap.size) u1 hneC u3 u4 u5 u6 u7 HF.out
    · skip
      refine wpOp_new (some 56) (.cells (madeCells #[.slice none 0 0] n) 60) (.slice (some ⟨Y0.heap.size, 0, none⟩) n n) rfl (by rfl) (by rfl) (by go_simp) ?_
      intro Y1 e1; have s1 : Below Y0.heap.size Y0 Y1 := by rw [e1]; exact (Below.refl _ _).alloc (Nat.le_refl _) _
      have z1 : Y0.heap.size < Y1.heap.size := by rw [e1]; simp
      have y1 : Below w3.heap.size w3 Y1 := y0.trans (s1.mono y0.size); have hrow : Y1.rowIs Y0.heap.size 60 n (fun _ => .slice none 0 0) := by rw [e1]; exact World.rowIs_made _ _ _ _
      refine And.intro (HSv.out _ y1) ?_
      clear e1; simp only [Act.put, List.setIfInBounds_toArray, List.set_cons_succ, List.set_cons_zero]; refine wpAnyH_all (rs := [7, 16]) (by kernel_rfl) (by decide) ?_
      refine all_two ?_ ?_
      · skip
        refine wpOp_new (some 49) (.cells #[.slice so sn sc, .slice lo ln lc] 52) (.slice (some ⟨Y1.heap.size, 0, none⟩) 2 2) rfl (by rfl) (by rfl) (by go_simp) ?_
        intro Y2 e2; have s2 : Below Y1.heap.size Y1 Y2 := by rw [e2]; exact (Below.refl _ _).alloc (Nat.le_refl _) _
        have z2 : Y1.heap.size < Y2.heap.size := by rw [e2]; simp
        have y2 : Below w3.heap.size w3 Y2 := y1.trans (s2.mono y1.size); have g0 : Y2.cell? ⟨Y1.heap.size, 0, none⟩ = some (.slice so sn sc) := by rw [e2]; simp [go_sem]
        have g1 : Y2.cell? ⟨Y1.heap.size, 1, none⟩ = some (.slice lo ln lc) := by rw [e2]; simp [go_sem]
        refine And.intro (HSv.out _ y2) ?_
        clear e2; simp only [Act.put, List.setIfInBounds_toArray, List.set_cons_succ, List.set_cons_zero]; refine wpAnyH_all (rs := [8, 16]) (by kernel_rfl) (by decide) ?_
        refine all_two ?_ ?_
        · skip
          have hco := concat_own Y1.heap.size _ _ ss ll w Y2 (hbw3.trans (y2.mono hbw3.size)) h12 hl12 h1 HS.out HL.out (((Below.refl Y2.heap.size Y2).cell (p := ⟨Y1.heap.size, 0, none⟩) (by show Y1.heap.size < _; omega)).trans g0) (((Below.refl Y2.heap.size Y2).cell (p := ⟨Y1.heap.size, 1, none⟩) (by show Y1.heap.size < _; omega)).trans g1)
          rw [<- HSn.out, <- HLn.out, <- HM.out] at hco; refine wpOp_two (some 50) (fun CB ccap => .slice (some ⟨CB, 0, none⟩) m ccap) _ rfl (by rfl) (by rfl) (by go_simp) hco ?_
          intro CB ccap Y3 hR; have s3 := hR.1; have HCo := hR.2; clear hco hR; have z3 : Y2.heap.size <= Y3.heap.size := s3.size; have y3 : Below w3.heap.size w3 Y3 := y2.trans (s3.mono y2.size); refine And.intro (HSv.out _ y3) ?_
          simp only [Act.put, List.setIfInBounds_toArray, List.set_cons_succ, List.set_cons_zero]
          refine take_at (i := 15) (v := .agg #[.slice (some ⟨b, off, none⟩) n cap, .slice (some ⟨B, 0, none⟩) n n, .slice aao an ac, .slice (some ⟨CB, 0, none⟩) m ccap, .int .i64 (sn : Int), .slice (some ⟨Y0.heap.size, 0, none⟩) n n]) (some 57) rfl (by rfl) (by kernel_rfl) (by kernel_rfl) (by kernel_rfl) (fun _ _ _ h => h) (Or.inl ⟨by rfl, fun wq hSw => by obtain ⟨q0, q1⟩ := hSw; go_simp⟩) (HSv.out _ y3) ?_
          simp only [Act.put, List.setIfInBounds_toArray, List.set_cons_succ, List.set_cons_zero]; refine wpAnyH_all (rs := [16]) (by kernel_rfl) (by decide) ?_
          refine all_one ?_
          refine wpOp_new (some 12) (.cells #[.slice none 0 0, .slice none 0 0, .slice none 0 0, .slice none 0 0, .int .i64 0, .slice none 0 0] 131) (.pointer (some ⟨Y3.heap.size, 0, none⟩)) rfl (by rfl) (by rfl) (by go_simp) ?_
          intro Y4 e4; have s4 : Below Y3.heap.size Y3 Y4 := by rw [e4]; exact (Below.refl _ _).alloc (Nat.le_refl _) _
          have z4 : Y3.heap.size < Y4.heap.size := by rw [e4]; simp
          have y4 : Below w3.heap.size w3 Y4 := y3.trans (s4.mono y3.size); have h6n : Six Y4 Y3.heap.size (.slice none 0 0) (.slice none 0 0) (.slice none 0 0) (.slice none 0 0) (.int .i64 0) (.slice none 0 0) := by rw [e4]; exact Six.new _ _ _ _ _ _ _ _
          refine And.intro (HSv.out _ y4) ?_
          clear e4; simp only [Act.put, List.setIfInBounds_toArray, List.set_cons_succ, List.set_cons_zero]; have six := h6n.below (Below.refl Y4.heap.size Y4) h6n.hl; have k0 := six.k0; have f0 := six.f0; have k1 := six.k1; have f1 := six.f1; have k2 := six.k2; have f2 := six.f2; have k3 := six.k3; have f3 := six.f3; have k4 := six.k4; have f4 := six.f4; have k5 := six.k5
          have f5 := six.f5; have hsl := six.hl; refine wpAnyH_all (rs := [17]) (by kernel_rfl) (by decide) ?_
          refine all_one ?_
          have HF : Hid (FiJ w w3 b off n cap B aao an ac m sn (ss ++ ll) t (Y3.heap.size) CB ccap (Y0.heap.size) 0 0 ((((((Y4.setCell ⟨Y3.heap.size, 0, none⟩ (.slice (some ⟨b, off, none⟩) n cap)).setCell ⟨Y3.heap.size, 1, none⟩ (.slice (some ⟨B, 0, none⟩) n n)).setCell ⟨Y3.heap.size, 2, none⟩ (.slice aao an ac)).setCell ⟨Y3.heap.size, 3, none⟩ (.slice (some ⟨CB, 0, none⟩) m ccap)).setCell ⟨Y3.heap.size, 4, none⟩ (.int .i64 (sn : Int))).setCell ⟨Y3.heap.size, 5, none⟩ (.slice (some ⟨Y0.heap.size, 0, none⟩) n n))) := FiJ.start y4 six (by obtain ⟨us, o1, o2⟩ := HCo.out; exact ⟨us, owns_mono (owns_later o1 s4 (Nat.le_refl _)) y2.size, o2⟩) (row_later hrow ((s2.trans (s3.mono s2.size)).trans (s4.mono (s2.trans (s3.mono s2.size)).size))) (by have := y3.size; omega) (by omega) (by obtain ⟨us, o1, o2⟩ := HCo.out; have hq := (o1.lt CB rfl); omega) (Nat.zero_le _)
          have hneC : CB ≠ Y0.heap.size := by obtain ⟨us, o1, o2⟩ := HCo.out; have hq := (o1.lt CB rfl); omega
          have hltC : CB < Y4.heap.size := by obtain ⟨us, o1, o2⟩ := HCo.out; have hq := (o1.lt CB rfl); omega
          refine wpOp_none (((((((Y4.setCell ⟨Y3.heap.size, 0, none⟩ (.slice (some ⟨b, off, none⟩) n cap)).setCell ⟨Y3.heap.size, 1, none⟩ (.slice (some ⟨B, 0, none⟩) n n)).setCell ⟨Y3.heap.size, 2, none⟩ (.slice aao an ac)).setCell ⟨Y3.heap.size, 3, none⟩ (.slice (some ⟨CB, 0, none⟩) m ccap)).setCell ⟨Y3.heap.size, 4, none⟩ (.int .i64 (sn : Int))).setCell ⟨Y3.heap.size, 5, none⟩ (.slice (some ⟨Y0.heap.size, 0, none⟩) n n))) rfl (by rfl) (by rfl) (by go_simp) (And.intro (HSx.out _ _ (by have := y3.size; omega) _ _ _ _ _ _ (HSv.out _ y4)) ?_)
          refine wpAnyH_done (by kernel_rfl) ?_ _
          have u1 : Y3.heap.size ≠ Y0.heap.size := by omega
          have u3 : w3.heap.size <= Y3.heap.size := by have := y3.size; omega
          have u4 : w3.heap.size <= Y0.heap.size := by have := y0.size; omega
          have u5 : Y3.heap.size < ((((((Y4.setCell ⟨Y3.heap.size, 0, none⟩ (.slice (some ⟨b, off, none⟩) n cap)).setCell ⟨Y3.heap.size, 1, none⟩ (.slice (some ⟨B, 0, none⟩) n n)).setCell ⟨Y3.heap.size, 2, none⟩ (.slice aao an ac)).setCell ⟨Y3.heap.size, 3, none⟩ (.slice (some ⟨CB, 0, none⟩) m ccap)).setCell ⟨Y3.heap.size, 4, none⟩ (.int .i64 (sn : Int))).setCell ⟨Y3.heap.size, 5, none⟩ (.slice (some ⟨Y0.heap.size, 0, none⟩) n n)).heap.size := by simp only [World.size_setCell]; omega
          have u6 : CB < ((((((Y4.setCell ⟨Y3.heap.size, 0, none⟩ (.slice (some ⟨b, off, none⟩) n cap)).setCell ⟨Y3.heap.size, 1, none⟩ (.slice (some ⟨B, 0, none⟩) n n)).setCell ⟨Y3.heap.size, 2, none⟩ (.slice aao an ac)).setCell ⟨Y3.heap.size, 3, none⟩ (.slice (some ⟨CB, 0, none⟩) m ccap)).setCell ⟨Y3.heap.size, 4, none⟩ (.int .i64 (sn : Int))).setCell ⟨Y3.heap.size, 5, none⟩ (.slice (some ⟨Y0.heap.size, 0, none⟩) n n)).heap.size := by simp only [World.size_setCell]; omega
          have u7 : Y0.heap.size < ((((((Y4.setCell ⟨Y3.heap.size, 0, none⟩ (.slice (some ⟨b, off, none⟩) n cap)).setCell ⟨Y3.heap.size, 1, none⟩ (.slice (some ⟨B, 0, none⟩) n n)).setCell ⟨Y3.heap.size, 2, none⟩ (.slice aao an ac)).setCell ⟨Y3.heap.size, 3, none⟩ (.slice (some ⟨CB, 0, none⟩) m ccap)).setCell ⟨Y3.heap.size, 4, none⟩ (.int .i64 (sn : Int))).setCell ⟨Y3.heap.size, 5, none⟩ (.slice (some ⟨Y0.heap.size, 0, none⟩) n n)).heap.size := by simp only [World.size_setCell]; omega
          show FiRel _ _ _ _ _ _ _ _ _ _ _ _ _ _ _ _
          exact firel_mk (Y3.heap.size) CB ccap (Y0.heap.size) u1 hneC u3 u4 u5 u6 u7 HF.out
        · skip
          refine wpOp_new (some 12) (.cells #[.slice none 0 0, .slice none 0 0, .slice none 0 0, .slice none 0 0, .int .i64 0, .slice none 0 0] 131) (.pointer (some ⟨Y2.heap.size, 0, none⟩)) rfl (by rfl) (by rfl) (by go_simp) ?_
          intro Y3 e3; have s3 : Below Y2.heap.size Y2 Y3 := by rw [e3]; exact (Below.refl _ _).alloc (Nat.le_refl _) _
          have z3 : Y2.heap.size < Y3.heap.size := by rw [e3]; simp
          have y3 : Below w3.heap.size w3 Y3 := y2.trans (s3.mono y2.size); have h6n : Six Y3 Y2.heap.size (.slice none 0 0) (.slice none 0 0) (.slice none 0 0) (.slice none 0 0) (.int .i64 0) (.slice none 0 0) := by rw [e3]; exact Six.new _ _ _ _ _ _ _ _
          refine And.intro (HSv.out _ y3) ?_
          clear e3; simp only [Act.put, List.setIfInBounds_toArray, List.set_cons_succ, List.set_cons_zero]; refine wpAnyH_all (rs := [8]) (by kernel_rfl) (by decide) ?_
          refine all_one ?_
          have hco := concat_own Y1.heap.size _ _ ss ll w Y3 (hbw3.trans (y3.mono hbw3.size)) h12 hl12 h1 HS.out HL.out ((s3.cell (p := ⟨Y1.heap.size, 0, none⟩) (by show Y1.heap.size < _; omega)).trans g0) ((s3.cell (p := ⟨Y1.heap.size, 1, none⟩) (by show Y1.heap.size < _; omega)).trans g1)
          rw [<- HSn.out, <- HLn.out, <- HM.out] at hco; refine wpOp_two (some 50) (fun CB ccap => .slice (some ⟨CB, 0, none⟩) m ccap) _ rfl (by rfl) (by rfl) (by go_simp) hco ?_
          intro CB ccap Y4 hR; have s4 := hR.1; have HCo := hR.2; clear hco hR; have z4 : Y3.heap.size <= Y4.heap.size := s4.size; have y4 : Below w3.heap.size w3 Y4 := y3.trans (s4.mono y3.size); refine And.intro (HSv.out _ y4) ?_
          simp only [Act.put, List.setIfInBounds_toArray, List.set_cons_succ, List.set_cons_zero]
          refine take_at (i := 15) (v := .agg #[.slice (some ⟨b, off, none⟩) n cap, .slice (some ⟨B, 0, none⟩) n n, .slice aao an ac, .slice (some ⟨CB, 0, none⟩) m ccap, .int .i64 (sn : Int), .slice (some ⟨Y0.heap.size, 0, none⟩) n n]) (some 57) rfl (by rfl) (by kernel_rfl) (by kernel_rfl) (by kernel_rfl) (fun _ _ _ h => h) (Or.inl ⟨by rfl, fun wq hSw => by obtain ⟨q0, q1⟩ := hSw; go_simp⟩) (HSv.out _ y4) ?_
          simp only [Act.put, List.setIfInBounds_toArray, List.set_cons_succ, List.set_cons_zero]; have six := h6n.below s4 h6n.hl; have k0 := six.k0; have f0 := six.f0; have k1 := six.k1; have f1 := six.f1; have k2 := six.k2; have f2 := six.f2; have k3 := six.k3; have f3 := six.f3; have k4 := six.k4; have f4 := six.f4; have k5 := six.k5; have f5 := six.f5; have hsl := six.hl
          refine wpAnyH_all (rs := [17]) (by kernel_rfl) (by decide) ?_
          refine all_one ?_
          have HF : Hid (FiJ w w3 b off n cap B aao an ac m sn (ss ++ ll) t (Y2.heap.size) CB ccap (Y0.heap.size) 0 0 ((((((Y4.setCell ⟨Y2.heap.size, 0, none⟩ (.slice (some ⟨b, off, none⟩) n cap)).setCell ⟨Y2.heap.size, 1, none⟩ (.slice (some ⟨B, 0, none⟩) n n)).setCell ⟨Y2.heap.size, 2, none⟩ (.slice aao an ac)).setCell ⟨Y2.heap.size, 3, none⟩ (.slice (some ⟨CB, 0, none⟩) m ccap)).setCell ⟨Y2.heap.size, 4, none⟩ (.int .i64 (sn : Int))).setCell ⟨Y2.heap.size, 5, none⟩ (.slice (some ⟨Y0.heap.size, 0, none⟩) n n))) := FiJ.start y4 six (by obtain ⟨us, o1, o2⟩ := HCo.out; exact ⟨us, owns_mono (owns_later o1 (Below.refl Y4.heap.size Y4) (Nat.le_refl _)) y3.size, o2⟩) (row_later hrow ((s2.trans (s3.mono s2.size)).trans (s4.mono (s2.trans (s3.mono s2.size)).size))) (by have := y2.size; omega) (by omega) (by obtain ⟨us, o1, o2⟩ := HCo.out; have hq := (o1.lt CB rfl); omega) (Nat.zero_le _)
          have hneC : CB ≠ Y0.heap.size := by obtain ⟨us, o1, o2⟩ := HCo.out; have hq := (o1.lt CB rfl); omega
          have hltC : CB < Y4.heap.size := by obtain ⟨us, o1, o2⟩ := HCo.out; have hq := (o1.lt CB rfl); omega
          refine wpOp_none (((((((Y4.setCell ⟨Y2.heap.size, 0, none⟩ (.slice (some ⟨b, off, none⟩) n cap)).setCell ⟨Y2.heap.size, 1, none⟩ (.slice (some ⟨B, 0, none⟩) n n)).setCell ⟨Y2.heap.size, 2, none⟩ (.slice aao an ac)).setCell ⟨Y2.heap.size, 3, none⟩ (.slice (some ⟨CB, 0, none⟩) m ccap)).setCell ⟨Y2.heap.size, 4, none⟩ (.int .i64 (sn : Int))).setCell ⟨Y2.heap.size, 5, none⟩ (.slice (some ⟨Y0.heap.size, 0, none⟩) n n))) rfl (by rfl) (by rfl) (by go_simp) (And.intro (HSx.out _ _ (by have := y2.size; omega) _ _ _ _ _ _ (HSv.out _ y4)) ?_)
          refine wpAnyH_done (by kernel_rfl) ?_ _
          have u1 : Y2.heap.size ≠ Y0.heap.size := by omega
          have u3 : w3.heap.size <= Y2.heap.size := by have := y2.size; omega
          have u4 : w3.heap.size <= Y0.heap.size := by have := y0.size; omega
          have u5 : Y2.heap.size < ((((((Y4.setCell ⟨Y2.heap.size, 0, none⟩ (.slice (some ⟨b, off, none⟩) n cap)).setCell ⟨Y2.heap.size, 1, none⟩ (.slice (some ⟨B, 0, none⟩) n n)).setCell ⟨Y2.heap.size, 2, none⟩ (.slice aao an ac)).setCell ⟨Y2.heap.size, 3, none⟩ (.slice (some ⟨CB, 0, none⟩) m ccap)).setCell ⟨Y2.heap.size, 4, none⟩ (.int .i64 (sn : Int))).setCell ⟨Y2.heap.size, 5, none⟩ (.slice (some ⟨Y0.heap.size, 0, none⟩) n n)).heap.size := by simp only [World.size_setCell]; omega
          have u6 : CB < ((((((Y4.setCell ⟨Y2.heap.size, 0, none⟩ (.slice (some ⟨b, off, none⟩) n cap)).setCell ⟨Y2.heap.size, 1, none⟩ (.slice (some ⟨B, 0, none⟩) n n)).setCell ⟨Y2.heap.size, 2, none⟩ (.slice aao an ac)).setCell ⟨Y2.heap.size, 3, none⟩ (.slice (some ⟨CB, 0, none⟩) m ccap)).setCell ⟨Y2.heap.size, 4, none⟩ (.int .i64 (sn : Int))).setCell ⟨Y2.heap.size, 5, none⟩ (.slice (some ⟨Y0.heap.size, 0, none⟩) n n)).heap.size := by simp only [World.size_setCell]; omega
          have u7 : Y0.heap.size < ((((((Y4.setCell ⟨Y2.heap.size, 0, none⟩ (.slice (some ⟨b, off, none⟩) n cap)).setCell ⟨Y2.heap.size, 1, none⟩ (.slice (some ⟨B, 0, none⟩) n n)).setCell ⟨Y2.heap.size, 2, none⟩ (.slice aao an ac)).setCell ⟨Y2.heap.size, 3, none⟩ (.slice (some ⟨CB, 0, none⟩) m ccap)).setCell ⟨Y2.heap.size, 4, none⟩ (.int .i64 (sn : Int))).setCell ⟨Y2.heap.size, 5, none⟩ (.slice (some ⟨Y0.heap.size, 0, none⟩) n n)).heap.size := by simp only [World.size_setCell]; omega
          show FiRel _ _ _ _ _ _ _ _ _ _ _ _ _ _ _ _
          exact firel_mk (Y2.heap.size) CB ccap (Y0.heap.size) u1 hneC u3 u4 u5 u6 u7 HF.out
      · skip
        refine wpOp_new (some 12) (.cells #[.slice none 0 0, .slice none 0 0, .slice none 0 0, .slice none 0 0, .int .i64 0, .slice none 0 0] 131) (.pointer (some ⟨Y1.heap.size, 0, none⟩)) rfl (by rfl) (by rfl) (by go_simp) ?_
        intro Y2 e2; have s2 : Below Y1.heap.size Y1 Y2 := by rw [e2]; exact (Below.refl _ _).alloc (Nat.le_refl _) _
        have z2 : Y1.heap.size < Y2.heap.size := by rw [e2]; simp
        have y2 : Below w3.heap.size w3 Y2 := y1.trans (s2.mono y1.size); have h6n : Six Y2 Y1.heap.size (.slice none 0 0) (.slice none 0 0) (.slice none 0 0) (.slice none 0 0) (.int .i64 0) (.slice none 0 0) := by rw [e2]; exact Six.new _ _ _ _ _ _ _ _
        refine And.intro (HSv.out _ y2) ?_
        clear e2; simp only [Act.put, List.setIfInBounds_toArray, List.set_cons_succ, List.set_cons_zero]; refine wpAnyH_all (rs := [7]) (by kernel_rfl) (by decide) ?_
        refine all_one ?_
        refine wpOp_new (some 49) (.cells #[.slice so sn sc, .slice lo ln lc] 52) (.slice (some ⟨Y2.heap.size, 0, none⟩) 2 2) rfl (by rfl) (by rfl) (by go_simp) ?_
        intro Y3 e3; have s3 : Below Y2.heap.size Y2 Y3 := by rw [e3]; exact (Below.refl _ _).alloc (Nat.le_refl _) _
        have z3 : Y2.heap.size < Y3.heap.size := by rw [e3]; simp
        have y3 : Below w3.heap.size w3 Y3 := y2.trans (s3.mono y2.size); have g0 : Y3.cell? ⟨Y2.heap.size, 0, none⟩ = some (.slice so sn sc) := by rw [e3]; simp [go_sem]
        have g1 : Y3.cell? ⟨Y2.heap.size, 1, none⟩ = some (.slice lo ln lc) := by rw [e3]; simp [go_sem]
        refine And.intro (HSv.out _ y3) ?_
        clear e3; simp only [Act.put, List.setIfInBounds_toArray, List.set_cons_succ, List.set_cons_zero]; refine wpAnyH_all (rs := [8]) (by kernel_rfl) (by decide) ?_
        refine all_one ?_
        have hco := concat_own Y2.heap.size _ _ ss ll w Y3 (hbw3.trans (y3.mono hbw3.size)) h12 hl12 h1 HS.out HL.out (((Below.refl Y3.heap.size Y3).cell (p := ⟨Y2.heap.size, 0, none⟩) (by show Y2.heap.size < _; omega)).trans g0) (((Below.refl Y3.heap.size Y3).cell (p := ⟨Y2.heap.size, 1, none⟩) (by show Y2.heap.size < _; omega)).trans g1)
        rw [<- HSn.out, <- HLn.out, <- HM.out] at hco; refine wpOp_two (some 50) (fun CB ccap => .slice (some ⟨CB, 0, none⟩) m ccap) _ rfl (by rfl) (by rfl) (by go_simp) hco ?_
        intro CB ccap Y4 hR; have s4 := hR.1; have HCo := hR.2; clear hco hR; have z4 : Y3.heap.size <= Y4.heap.size := s4.size; have y4 : Below w3.heap.size w3 Y4 := y3.trans (s4.mono y3.size); refine And.intro (HSv.out _ y4) ?_
        simp only [Act.put, List.setIfInBounds_toArray, List.set_cons_succ, List.set_cons_zero]
        refine take_at (i := 15) (v := .agg #[.slice (some ⟨b, off, none⟩) n cap, .slice (some ⟨B, 0, none⟩) n n, .slice aao an ac, .slice (some ⟨CB, 0, none⟩) m ccap, .int .i64 (sn : Int), .slice (some ⟨Y0.heap.size, 0, none⟩) n n]) (some 57) rfl (by rfl) (by kernel_rfl) (by kernel_rfl) (by kernel_rfl) (fun _ _ _ h => h) (Or.inl ⟨by rfl, fun wq hSw => by obtain ⟨q0, q1⟩ := hSw; go_simp⟩) (HSv.out _ y4) ?_
        simp only [Act.put, List.setIfInBounds_toArray, List.set_cons_succ, List.set_cons_zero]; have six := h6n.below (s3.trans (s4.mono s3.size)) h6n.hl; have k0 := six.k0; have f0 := six.f0; have k1 := six.k1; have f1 := six.f1; have k2 := six.k2; have f2 := six.f2; have k3 := six.k3; have f3 := six.f3; have k4 := six.k4; have f4 := six.f4; have k5 := six.k5; have f5 := six.f5
        have hsl := six.hl; refine wpAnyH_all (rs := [17]) (by kernel_rfl) (by decide) ?_
        refine all_one ?_
        have HF : Hid (FiJ w w3 b off n cap B aao an ac m sn (ss ++ ll) t (Y1.heap.size) CB ccap (Y0.heap.size) 0 0 ((((((Y4.setCell ⟨Y1.heap.size, 0, none⟩ (.slice (some ⟨b, off, none⟩) n cap)).setCell ⟨Y1.heap.size, 1, none⟩ (.slice (some ⟨B, 0, none⟩) n n)).setCell ⟨Y1.heap.size, 2, none⟩ (.slice aao an ac)).setCell ⟨Y1.heap.size, 3, none⟩ (.slice (some ⟨CB, 0, none⟩) m ccap)).setCell ⟨Y1.heap.size, 4, none⟩ (.int .i64 (sn : Int))).setCell ⟨Y1.heap.size, 5, none⟩ (.slice (some ⟨Y0.heap.size, 0, none⟩) n n))) := FiJ.start y4 six (by obtain ⟨us, o1, o2⟩ := HCo.out; exact ⟨us, owns_mono (owns_later o1 (Below.refl Y4.heap.size Y4) (Nat.le_refl _)) y3.size, o2⟩) (row_later hrow ((s2.trans (s3.mono s2.size)).trans (s4.mono (s2.trans (s3.mono s2.size)).size))) (by have := y1.size; omega) (by omega) (by obtain ⟨us, o1, o2⟩ := HCo.out; have hq := (o1.lt CB rfl); omega) (Nat.zero_le _)
        have hneC : CB ≠ Y0.heap.size := by obtain ⟨us, o1, o2⟩ := HCo.out; have hq := (o1.lt CB rfl); omega
        have hltC : CB < Y4.heap.size := by obtain ⟨us, o1, o2⟩ := HCo.out; have hq := (o1.lt CB rfl); omega
        refine wpOp_none (((((((Y4.setCell ⟨Y1.heap.size, 0, none⟩ (.slice (some ⟨b, off, none⟩) n cap)).setCell ⟨Y1.heap.size, 1, none⟩ (.slice (some ⟨B, 0, none⟩) n n)).setCell ⟨Y1.heap.size, 2, none⟩ (.slice aao an ac)).setCell ⟨Y1.heap.size, 3, none⟩ (.slice (some ⟨CB, 0, none⟩) m ccap)).setCell ⟨Y1.heap.size, 4, none⟩ (.int .i64 (sn : Int))).setCell ⟨Y1.heap.size, 5, none⟩ (.slice (some ⟨Y0.heap.size, 0, none⟩) n n))) rfl (by rfl) (by rfl) (by go_simp) (And.intro (HSx.out _ _ (by have := y1.size; omega) _ _ _ _ _ _ (HSv.out _ y4)) ?_)
        refine wpAnyH_done (by kernel_rfl) ?_ _
        have u1 : Y1.heap.size ≠ Y0.heap.size := by omega
        have u3 : w3.heap.size <= Y1.heap.size := by have := y1.size; omega
        have u4 : w3.heap.size <= Y0.heap.size := by have := y0.size; omega
        have u5 : Y1.heap.size < ((((((Y4.setCell ⟨Y1.heap.size, 0, none⟩ (.slice (some ⟨b, off, none⟩) n cap)).setCell ⟨Y1.heap.size, 1, none⟩ (.slice (some ⟨B, 0, none⟩) n n)).setCell ⟨Y1.heap.size, 2, none⟩ (.slice aao an ac)).setCell ⟨Y1.heap.size, 3, none⟩ (.slice (some ⟨CB, 0, none⟩) m ccap)).setCell ⟨Y1.heap.size, 4, none⟩ (.int .i64 (sn : Int))).setCell ⟨Y1.heap.size, 5, none⟩ (.slice (some ⟨Y0.heap.size, 0, none⟩) n n)).heap.size := by simp only [World.size_setCell]; omega
        have u6 : CB < ((((((Y4.setCell ⟨Y1.heap.size, 0, none⟩ (.slice (some ⟨b, off, none⟩) n cap)).setCell ⟨Y1.heap.size, 1, none⟩ (.slice (some ⟨B, 0, none⟩) n n)).setCell ⟨Y1.heap.size, 2, none⟩ (.slice aao an ac)).setCell ⟨Y1.heap.size, 3, none⟩ (.slice (some ⟨CB, 0, none⟩) m ccap)).setCell ⟨Y1.heap.size, 4, none⟩ (.int .i64 (sn : Int))).setCell ⟨Y1.heap.size, 5, none⟩ (.slice (some ⟨Y0.heap.size, 0, none⟩) n n)).heap.size := by simp only [World.size_setCell]; omega
        have u7 : Y0.heap.size < ((((((Y4.setCell ⟨Y1.heap.size, 0, none⟩ (.slice (some ⟨b, off, none⟩) n cap)).setCell ⟨Y1.heap.size, 1, none⟩ (.slice (some ⟨B, 0, none⟩) n n)).setCell ⟨Y1.heap.size, 2, none⟩ (.slice aao an ac)).setCell ⟨Y1.heap.size, 3, none⟩ (.slice (some ⟨CB, 0, none⟩) m ccap)).setCell ⟨Y1.heap.size, 4, none⟩ (.int .i64 (sn : Int))).setCell ⟨Y1.heap.size, 5, none⟩ (.slice (some ⟨Y0.heap.size, 0, none⟩) n n)).heap.size := by simp only [World.size_setCell]; omega
        show FiRel _ _ _ _ _ _ _ _ _ _ _ _ _ _ _ _
        exact firel_mk (Y1.heap.size) CB ccap (Y0.heap.size) u1 hneC u3 u4 u5 u6 u7 HF.out
    · skip
      refine wpOp_new (some 12) (.cells #[.slice none 0 0, .slice none 0 0, .slice none 0 0, .slice none 0 0, .int .i64 0, .slice none 0 0] 131) (.pointer (some ⟨Y0.heap.size, 0, none⟩)) rfl (by rfl) (by rfl) (by go_simp) ?_
      intro Y1 e1; have s1 : Below Y0.heap.size Y0 Y1 := by rw [e1]; exact (Below.refl _ _).alloc (Nat.le_refl _) _
      have z1 : Y0.heap.size < Y1.heap.size := by rw [e1]; simp
      have y1 : Below w3.heap.size w3 Y1 := y0.trans (s1.mono y0.size); have h6n : Six Y1 Y0.heap.size (.slice none 0 0) (.slice none 0 0) (.slice none 0 0) (.slice none 0 0) (.int .i64 0) (.slice none 0 0) := by rw [e1]; exact Six.new _ _ _ _ _ _ _ _
      refine And.intro (HSv.out _ y1) ?_
      clear e1; simp only [Act.put, List.setIfInBounds_toArray, List.set_cons_succ, List.set_cons_zero]; refine wpAnyH_all (rs := [7, 14]) (by kernel_rfl) (by decide) ?_
      refine all_two ?_ ?_
      · skip
        refine wpOp_new (some 49) (.cells #[.slice so sn sc, .slice lo ln lc] 52) (.slice (some ⟨Y1.heap.size, 0, none⟩) 2 2) rfl (by rfl) (by rfl) (by go_simp) ?_
        intro Y2 e2; have s2 : Below Y1.heap.size Y1 Y2 := by rw [e2]; exact (Below.refl _ _).alloc (Nat.le_refl _) _
        have z2 : Y1.heap.size < Y2.heap.size := by rw [e2]; simp
        have y2 : Below w3.heap.size w3 Y2 := y1.trans (s2.mono y1.size); have g0 : Y2.cell? ⟨Y1.heap.size, 0, none⟩ = some (.slice so sn sc) := by rw [e2]; simp [go_sem]
        have g1 : Y2.cell? ⟨Y1.heap.size, 1, none⟩ = some (.slice lo ln lc) := by rw [e2]; simp [go_sem]
        refine And.intro (HSv.out _ y2) ?_
        clear e2; simp only [Act.put, List.setIfInBounds_toArray, List.set_cons_succ, List.set_cons_zero]; refine wpAnyH_all (rs := [8, 14]) (by kernel_rfl) (by decide) ?_
        refine all_two ?_ ?_
        · skip
          have hco := concat_own Y1.heap.size _ _ ss ll w Y2 (hbw3.trans (y2.mono hbw3.size)) h12 hl12 h1 HS.out HL.out (((Below.refl Y2.heap.size Y2).cell (p := ⟨Y1.heap.size, 0, none⟩) (by show Y1.heap.size < _; omega)).trans g0) (((Below.refl Y2.heap.size Y2).cell (p := ⟨Y1.heap.size, 1, none⟩) (by show Y1.heap.size < _; omega)).trans g1)
          rw [<- HSn.out, <- HLn.out, <- HM.out] at hco; refine wpOp_two (some 50) (fun CB ccap => .slice (some ⟨CB, 0, none⟩) m ccap) _ rfl (by rfl) (by rfl) (by go_simp) hco ?_
          intro CB ccap Y3 hR; have s3 := hR.1; have HCo := hR.2; clear hco hR; have z3 : Y2.heap.size <= Y3.heap.size := s3.size; have y3 : Below w3.heap.size w3 Y3 := y2.trans (s3.mono y2.size); refine And.intro (HSv.out _ y3) ?_
          simp only [Act.put, List.setIfInBounds_toArray, List.set_cons_succ, List.set_cons_zero]; refine wpAnyH_all (rs := [14]) (by kernel_rfl) (by decide) ?_
          refine all_one ?_
          refine wpOp_new (some 56) (.cells (madeCells #[.slice none 0 0] n) 60) (.slice (some ⟨Y3.heap.size, 0, none⟩) n n) rfl (by rfl) (by rfl) (by go_simp) ?_
          intro Y4 e4; have s4 : Below Y3.heap.size Y3 Y4 := by rw [e4]; exact (Below.refl _ _).alloc (Nat.le_refl _) _
          have z4 : Y3.heap.size < Y4.heap.size := by rw [e4]; simp
          have y4 : Below w3.heap.size w3 Y4 := y3.trans (s4.mono y3.size); have hrow : Y4.rowIs Y3.heap.size 60 n (fun _ => .slice none 0 0) := by rw [e4]; exact World.rowIs_made _ _ _ _
          refine And.intro (HSv.out _ y4) ?_
          clear e4; simp only [Act.put, List.setIfInBounds_toArray, List.set_cons_succ, List.set_cons_zero]
          refine take_at (i := 15) (v := .agg #[.slice (some ⟨b, off, none⟩) n cap, .slice (some ⟨B, 0, none⟩) n n, .slice aao an ac, .slice (some ⟨CB, 0, none⟩) m ccap, .int .i64 (sn : Int), .slice (some ⟨Y3.heap.size, 0, none⟩) n n]) (some 57) rfl (by rfl) (by kernel_rfl) (by kernel_rfl) (by kernel_rfl) (fun _ _ _ h => h) (Or.inl ⟨by rfl, fun wq hSw => by obtain ⟨q0, q1⟩ := hSw; go_simp⟩) (HSv.out _ y4) ?_
          simp only [Act.put, List.setIfInBounds_toArray, List.set_cons_succ, List.set_cons_zero]; have six := h6n.below ((s2.trans (s3.mono s2.size)).trans (s4.mono (s2.trans (s3.mono s2.size)).size)) h6n.hl; have k0 := six.k0; have f0 := six.f0; have k1 := six.k1; have f1 := six.f1; have k2 := six.k2; have f2 := six.f2; have k3 := six.k3; have f3 := six.f3; have k4 := six.k4
          have f4 := six.f4; have k5 := six.k5; have f5 := six.f5; have hsl := six.hl; refine wpAnyH_all (rs := [17]) (by kernel_rfl) (by decide) ?_
          refine all_one ?_
          have HF : Hid (FiJ w w3 b off n cap B aao an ac m sn (ss ++ ll) t (Y0.heap.size) CB ccap (Y3.heap.size) 0 0 ((((((Y4.setCell ⟨Y0.heap.size, 0, none⟩ (.slice (some ⟨b, off, none⟩) n cap)).setCell ⟨Y0.heap.size, 1, none⟩ (.slice (some ⟨B, 0, none⟩) n n)).setCell ⟨Y0.heap.size, 2, none⟩ (.slice aao an ac)).setCell ⟨Y0.heap.size, 3, none⟩ (.slice (some ⟨CB, 0, none⟩) m ccap)).setCell ⟨Y0.heap.size, 4, none⟩ (.int .i64 (sn : Int))).setCell ⟨Y0.heap.size, 5, none⟩ (.slice (some ⟨Y3.heap.size, 0, none⟩) n n))) := FiJ.start y4 six (by obtain ⟨us, o1, o2⟩ := HCo.out; exact ⟨us, owns_mono (owns_later o1 s4 (Nat.le_refl _)) y2.size, o2⟩) (row_later hrow (Below.refl Y4.heap.size Y4)) (by have := y0.size; omega) (by omega) (by obtain ⟨us, o1, o2⟩ := HCo.out; have hq := (o1.lt CB rfl); omega) (Nat.zero_le _)
          have hneC : CB ≠ Y3.heap.size := by obtain ⟨us, o1, o2⟩ := HCo.out; have hq := (o1.lt CB rfl); omega
          have hltC : CB < Y4.heap.size := by obtain ⟨us, o1, o2⟩ := HCo.out; have hq := (o1.lt CB rfl); omega
          refine wpOp_none (((((((Y4.setCell ⟨Y0.heap.size, 0, none⟩ (.slice (some ⟨b, off, none⟩) n cap)).setCell ⟨Y0.heap.size, 1, none⟩ (.slice (some ⟨B, 0, none⟩) n n)).setCell ⟨Y0.heap.size, 2, none⟩ (.slice aao an ac)).setCell ⟨Y0.heap.size, 3, none⟩ (.slice (some ⟨CB, 0, none⟩) m ccap)).setCell ⟨Y0.heap.size, 4, none⟩ (.int .i64 (sn : Int))).setCell ⟨Y0.heap.size, 5, none⟩ (.slice (some ⟨Y3.heap.size, 0, none⟩) n n))) rfl (by rfl) (by rfl) (by go_simp) (And.intro (HSx.out _ _ (by have := y0.size; omega) _ _ _ _ _ _ (HSv.out _ y4)) ?_)
          refine wpAnyH_done (by kernel_rfl) ?_ _
          have u1 : Y0.heap.size ≠ Y3.heap.size := by omega
          have u3 : w3.heap.size <= Y0.heap.size := by have := y0.size; omega
          have u4 : w3.heap.size <= Y3.heap.size := by have := y3.size; omega
          have u5 : Y0.heap.size < ((((((Y4.setCell ⟨Y0.heap.size, 0, none⟩ (.slice (some ⟨b, off, none⟩) n cap)).setCell ⟨Y0.heap.size, 1, none⟩ (.slice (some ⟨B, 0, none⟩) n n)).setCell ⟨Y0.heap.size, 2, none⟩ (.slice aao an ac)).setCell ⟨Y0.heap.size, 3, none⟩ (.slice (some ⟨CB, 0, none⟩) m ccap)).setCell ⟨Y0.heap.size, 4, none⟩ (.int .i64 (sn : Int))).setCell ⟨Y0.heap.size, 5, none⟩ (.slice (some ⟨Y3.heap.size, 0, none⟩) n n)).heap.size := by simp only [World.size_setCell]; omega
          have u6 : CB < ((((((Y4.setCell ⟨Y0.heap.size, 0, none⟩ (.slice (some ⟨b, off, none⟩) n cap)).setCell ⟨Y0.heap.size, 1, none⟩ (.slice (some ⟨B, 0, none⟩) n n)).setCell ⟨Y0.heap.size, 2, none⟩ (.slice aao an ac)).setCell ⟨Y0.heap.size, 3, none⟩ (.slice (some ⟨CB, 0, none⟩) m ccap)).setCell ⟨Y0.heap.size, 4, none⟩ (.int .i64 (sn : Int))).setCell ⟨Y0.heap.size, 5, none⟩ (.slice (some ⟨Y3.heap.size, 0, none⟩) n n)).heap.size := by simp only [World.size_setCell]; omega
          have u7 : Y3.heap.size < ((((((Y4.setCell ⟨Y0.heap.size, 0, none⟩ (.slice (some ⟨b, off, none⟩) n cap)).setCell ⟨Y0.heap.size, 1, none⟩ (.slice (some ⟨B, 0, none⟩) n n)).setCell ⟨Y0.heap.size, 2, none⟩ (.slice aao an ac)).setCell ⟨Y0.heap.size, 3, none⟩ (.slice (some ⟨CB, 0, none⟩) m ccap)).setCell ⟨Y0.heap.size, 4, none⟩ (.int .i64 (sn : Int))).setCell ⟨Y0.heap.size, 5, none⟩ (.slice (some ⟨Y3.heap.size, 0, none⟩) n n)).heap.size := by simp only [World.size_setCell]; omega
          show FiRel _ _ _ _ _ _ _ _ _ _ _ _ _ _ _ _
          exact firel_mk (Y0.heap.size) CB ccap (Y3.heap.size) u1 hneC u3 u4 u5 u6 u7 HF.out
        · skip
          refine wpOp_new (some 56) (.cells (madeCells #[.slice none 0 0] n) 60) (.slice (some ⟨Y2.heap.size, 0, none⟩) n n) rfl (by rfl) (by rfl) (by go_simp) ?_
          intro Y3 e3; have s3 : Below Y2.heap.size Y2 Y3 := by rw [e3]; exact (Below.refl _ _).alloc (Nat.le_refl _) _
          have z3 : Y2.heap.size < Y3.heap.size := by rw [e3]; simp
          have y3 : Below w3.heap.size w3 Y3 := y2.trans (s3.mono y2.size); have hrow : Y3.rowIs Y2.heap.size 60 n (fun _ => .slice none 0 0) := by rw [e3]; exact World.rowIs_made _ _ _ _
          refine And.intro (HSv.out _ y3) ?_
          clear e3; simp only [Act.put, List.setIfInBounds_toArray, List.set_cons_succ, List.set_cons_zero]; refine wpAnyH_all (rs := [8]) (by kernel_rfl) (by decide) ?_
          refine all_one ?_
          have hco := concat_own Y1.heap.size _ _ ss ll w Y3 (hbw3.trans (y3.mono hbw3.size)) h12 hl12 h1 HS.out HL.out ((s3.cell (p := ⟨Y1.heap.size, 0, none⟩) (by show Y1.heap.size < _; omega)).trans g0) ((s3.cell (p := ⟨Y1.heap.size, 1, none⟩) (by show Y1.heap.size < _; omega)).trans g1)
          rw [<- HSn.out, <- HLn.out, <- HM.out] at hco; refine wpOp_two (some 50) (fun CB ccap => .slice (some ⟨CB, 0, none⟩) m ccap) _ rfl (by rfl) (by rfl) (by go_simp) hco ?_
          intro CB ccap Y4 hR; have s4 := hR.1; have HCo := hR.2; clear hco hR; have z4 : Y3.heap.size <= Y4.heap.size := s4.size; have y4 : Below w3.heap.size w3 Y4 := y3.trans (s4.mono y3.size); refine And.intro (HSv.out _ y4) ?_
          simp only [Act.put, List.setIfInBounds_toArray, List.set_cons_succ, List.set_cons_zero]
          refine take_at (i := 15) (v := .agg #[.slice (some ⟨b, off, none⟩) n cap, .slice (some ⟨B, 0, none⟩) n n, .slice aao an ac, .slice (some ⟨CB, 0, none⟩) m ccap, .int .i64 (sn : Int), .slice (some ⟨Y2.heap.size, 0, none⟩) n n]) (some 57) rfl (by rfl) (by kernel_rfl) (by kernel_rfl) (by kernel_rfl) (fun _ _ _ h => h) (Or.inl ⟨by rfl, fun wq hSw => by obtain ⟨q0, q1⟩ := hSw; go_simp⟩) (HSv.out _ y4) ?_
          simp only [Act.put, List.setIfInBounds_toArray, List.set_cons_succ, List.set_cons_zero]; have six := h6n.below ((s2.trans (s3.mono s2.size)).trans (s4.mono (s2.trans (s3.mono s2.size)).size)) h6n.hl; have k0 := six.k0; have f0 := six.f0; have k1 := six.k1; have f1 := six.f1; have k2 := six.k2; have f2 := six.f2; have k3 := six.k3; have f3 := six.f3; have k4 := six.k4
          have f4 := six.f4; have k5 := six.k5; have f5 := six.f5; have hsl := six.hl; refine wpAnyH_all (rs := [17]) (by kernel_rfl) (by decide) ?_
          refine all_one ?_
          have HF : Hid (FiJ w w3 b off n cap B aao an ac m sn (ss ++ ll) t (Y0.heap.size) CB ccap (Y2.heap.size) 0 0 ((((((Y4.setCell ⟨Y0.heap.size, 0, none⟩ (.slice (some ⟨b, off, none⟩) n cap)).setCell ⟨Y0.heap.size, 1, none⟩ (.slice (some ⟨B, 0, none⟩) n n)).setCell ⟨Y0.heap.size, 2, none⟩ (.slice aao an ac)).setCell ⟨Y0.heap.size, 3, none⟩ (.slice (some ⟨CB, 0, none⟩) m ccap)).setCell ⟨Y0.heap.size, 4, none⟩ (.int .i64 (sn : Int))).setCell ⟨Y0.heap.size, 5, none⟩ (.slice (some ⟨Y2.heap.size, 0, none⟩) n n))) := FiJ.start y4 six (by obtain ⟨us, o1, o2⟩ := HCo.out; exact ⟨us, owns_mono (owns_later o1 (Below.refl Y4.heap.size Y4) (Nat.le_refl _)) y3.size, o2⟩) (row_later hrow s4) (by have := y0.size; omega) (by omega) (by obtain ⟨us, o1, o2⟩ := HCo.out; have hq := (o1.lt CB rfl); omega) (Nat.zero_le _)
          have hneC : CB ≠ Y2.heap.size := by obtain ⟨us, o1, o2⟩ := HCo.out; have hq := (o1.lt CB rfl); omega
          have hltC : CB < Y4.heap.size := by obtain ⟨us, o1, o2⟩ := HCo.out; have hq := (o1.lt CB rfl); omega
          refine wpOp_none (((((((Y4.setCell ⟨Y0.heap.size, 0, none⟩ (.slice (some ⟨b, off, none⟩) n cap)).setCell ⟨Y0.heap.size, 1, none⟩ (.slice (some ⟨B, 0, none⟩) n n)).setCell ⟨Y0.heap.size, 2, none⟩ (.slice aao an ac)).setCell ⟨Y0.heap.size, 3, none⟩ (.slice (some ⟨CB, 0, none⟩) m ccap)).setCell ⟨Y0.heap.size, 4, none⟩ (.int .i64 (sn : Int))).setCell ⟨Y0.heap.size, 5, none⟩ (.slice (some ⟨Y2.heap.size, 0, none⟩) n n))) rfl (by rfl) (by rfl) (by go_simp) (And.intro (HSx.out _ _ (by have := y0.size; omega) _ _ _ _ _ _ (HSv.out _ y4)) ?_)
          refine wpAnyH_done (by kernel_rfl) ?_ _
          have u1 : Y0.heap.size ≠ Y2.heap.size := by omega
          have u3 : w3.heap.size <= Y0.heap.size := by have := y0.size; omega
          have u4 : w3.heap.size <= Y2.heap.size := by have := y2.size; omega
          have u5 : Y0.heap.size < ((((((Y4.setCell ⟨Y0.heap.size, 0, none⟩ (.slice (some ⟨b, off, none⟩) n cap)).setCell ⟨Y0.heap.size, 1, none⟩ (.slice (some ⟨B, 0, none⟩) n n)).setCell ⟨Y0.heap.size, 2, none⟩ (.slice aao an ac)).setCell ⟨Y0.heap.size, 3, none⟩ (.slice (some ⟨CB, 0, none⟩) m ccap)).setCell ⟨Y0.heap.size, 4, none⟩ (.int .i64 (sn : Int))).setCell ⟨Y0.heap.size, 5, none⟩ (.slice (some ⟨Y2.heap.size, 0, none⟩) n n)).heap.size := by simp only [World.size_setCell]; omega
          have u6 : CB < ((((((Y4.setCell ⟨Y0.heap.size, 0, none⟩ (.slice (some ⟨b, off, none⟩) n cap)).setCell ⟨Y0.heap.size, 1, none⟩ (.slice (some ⟨B, 0, none⟩) n n)).setCell ⟨Y0.heap.size, 2, none⟩ (.slice aao an ac)).setCell ⟨Y0.heap.size, 3, none⟩ (.slice (some ⟨CB, 0, none⟩) m ccap)).setCell ⟨Y0.heap.size, 4, none⟩ (.int .i64 (sn : Int))).setCell ⟨Y0.heap.size, 5, none⟩ (.slice (some ⟨Y2.heap.size, 0, none⟩) n n)).heap.size := by simp only [World.size_setCell]; omega
          have u7 : Y2.heap.size < ((((((Y4.setCell ⟨Y0.heap.size, 0, none⟩ (.slice (some ⟨b, off, none⟩) n cap)).setCell ⟨Y0.heap.size, 1, none⟩ (.slice (some ⟨B, 0, none⟩) n n)).setCell ⟨Y0.heap.size, 2, none⟩ (.slice aao an ac)).setCell ⟨Y0.heap.size, 3, none⟩ (.slice (some ⟨CB, 0, none⟩) m ccap)).setCell ⟨Y0.heap.size, 4, none⟩ (.int .i64 (sn : Int))).setCell ⟨Y0.heap.size, 5, none⟩ (.slice (some ⟨Y2.heap.size, 0, none⟩) n n)).heap.size := by simp only [World.size_setCell]; omega
          show FiRel _ _ _ _ _ _ _ _ _ _ _ _ _ _ _ _
          exact firel_mk (Y0.heap.size) CB ccap (Y2.heap.size) u1 hneC u3 u4 u5 u6 u7 HF.out
      · skip
        refine wpOp_new (some 56) (.cells (madeCells #[.slice none 0 0] n) 60) (.slice (some ⟨Y1.heap.size, 0, none⟩) n n) rfl (by rfl) (by rfl) (by go_simp) ?_
        intro Y2 e2; have s2 : Below Y1.heap.size Y1 Y2 := by rw [e2]; exact (Below.refl _ _).alloc (Nat.le_refl _) _
        have z2 : Y1.heap.size < Y2.heap.size := by rw [e2]; simp
        have y2 : Below w3.heap.size w3 Y2 := y1.trans (s2.mono y1.size); have hrow : Y2.rowIs Y1.heap.size 60 n (fun _ => .slice none 0 0) := by rw [e2]; exact World.rowIs_made _ _ _ _
        refine And.intro (HSv.out _ y2) ?_
        clear e2; simp only [Act.put, List.setIfInBounds_toArray, List.set_cons_succ, List.set_cons_zero]; refine wpAnyH_all (rs := [7]) (by kernel_rfl) (by decide) ?_
        refine all_one ?_
        refine wpOp_new (some 49) (.cells #[.slice so sn sc, .slice lo ln lc] 52) (.slice (some ⟨Y2.heap.size, 0, none⟩) 2 2) rfl (by rfl) (by rfl) (by go_simp) ?_
        intro Y3 e3; have s3 : Below Y2.heap.size Y2 Y3 := by rw [e3]; exact (Below.refl _ _).alloc (Nat.le_refl _) _
        have z3 : Y2.heap.size < Y3.heap.size := by rw [e3]; simp
        have y3 : Below w3.heap.size w3 Y3 := y2.trans (s3.mono y2.size); have g0 : Y3.cell? ⟨Y2.heap.size, 0, none⟩ = some (.slice so sn sc) := by rw [e3]; simp [go_sem]
        have g1 : Y3.cell? ⟨Y2.heap.size, 1, none⟩ = some (.slice lo ln lc) := by rw [e3]; simp [go_sem]
        refine And.intro (HSv.out _ y3) ?_
        clear e3; simp only [Act.put, List.setIfInBounds_toArray, List.set_cons_succ, List.set_cons_zero]; refine wpAnyH_all (rs := [8]) (by kernel_rfl) (by decide) ?_
        refine all_one ?_
        have hco := concat_own Y2.heap.size _ _ ss ll w Y3 (hbw3.trans (y3.mono hbw3.size)) h12 hl12 h1 HS.out HL.out (((Below.refl Y3.heap.size Y3).cell (p := ⟨Y2.heap.size, 0, none⟩) (by show Y2.heap.size < _; omega)).trans g0) (((Below.refl Y3.heap.size Y3).cell (p := ⟨Y2.heap.size, 1, none⟩) (by show Y2.heap.size < _; omega)).trans g1)
        rw [<- HSn.out, <- HLn.out, <- HM.out] at hco; refine wpOp_two (some 50) (fun CB ccap => .slice (some ⟨CB, 0, none⟩) m ccap) _ rfl (by rfl) (by rfl) (by go_simp) hco ?_
        intro CB ccap Y4 hR; have s4 := hR.1; have HCo := hR.2; clear hco hR; have z4 : Y3.heap.size <= Y4.heap.size := s4.size; have y4 : Below w3.heap.size w3 Y4 := y3.trans (s4.mono y3.size); refine And.intro (HSv.out _ y4) ?_
        simp only [Act.put, List.setIfInBounds_toArray, List.set_cons_succ, List.set_cons_zero]
        refine take_at (i := 15) (v := .agg #[.slice (some ⟨b, off, none⟩) n cap, .slice (some ⟨B, 0, none⟩) n n, .slice aao an ac, .slice (some ⟨CB, 0, none⟩) m ccap, .int .i64 (sn : Int), .slice (some ⟨Y1.heap.size, 0, none⟩) n n]) (some 57) rfl (by rfl) (by kernel_rfl) (by kernel_rfl) (by kernel_rfl) (fun _ _ _ h => h) (Or.inl ⟨by rfl, fun wq hSw => by obtain ⟨q0, q1⟩ := hSw; go_simp⟩) (HSv.out _ y4) ?_
        simp only [Act.put, List.setIfInBounds_toArray, List.set_cons_succ, List.set_cons_zero]; have six := h6n.below ((s2.trans (s3.mono s2.size)).trans (s4.mono (s2.trans (s3.mono s2.size)).size)) h6n.hl; have k0 := six.k0; have f0 := six.f0; have k1 := six.k1; have f1 := six.f1; have k2 := six.k2; have f2 := six.f2; have k3 := six.k3; have f3 := six.f3; have k4 := six.k4
        have f4 := six.f4; have k5 := six.k5; have f5 := six.f5; have hsl := six.hl; refine wpAnyH_all (rs := [17]) (by kernel_rfl) (by decide) ?_
        refine all_one ?_
        have HF : Hid (FiJ w w3 b off n cap B aao an ac m sn (ss ++ ll) t (Y0.heap.size) CB ccap (Y1.heap.size) 0 0 ((((((Y4.setCell ⟨Y0.heap.size, 0, none⟩ (.slice (some ⟨b, off, none⟩) n cap)).setCell ⟨Y0.heap.size, 1, none⟩ (.slice (some ⟨B, 0, none⟩) n n)).setCell ⟨Y0.heap.size, 2, none⟩ (.slice aao an ac)).setCell ⟨Y0.heap.size, 3, none⟩ (.slice (some ⟨CB, 0, none⟩) m ccap)).setCell ⟨Y0.heap.size, 4, none⟩ (.int .i64 (sn : Int))).setCell ⟨Y0.heap.size, 5, none⟩ (.slice (some ⟨Y1.heap.size, 0, none⟩) n n))) := FiJ.start y4 six (by obtain ⟨us, o1, o2⟩ := HCo.out; exact ⟨us, owns_mono (owns_later o1 (Below.refl Y4.heap.size Y4) (Nat.le_refl _)) y3.size, o2⟩) (row_later hrow (s3.trans (s4.mono s3.size))) (by have := y0.size; omega) (by omega) (by obtain ⟨us, o1, o2⟩ := HCo.out; have hq := (o1.lt CB rfl); omega) (Nat.zero_le _)
        have hneC : CB ≠ Y1.heap.size := by obtain ⟨us, o1, o2⟩ := HCo.out; have hq := (o1.lt CB rfl); omega
        have hltC : CB < Y4.heap.size := by obtain ⟨us, o1, o2⟩ := HCo.out; have hq := (o1.lt CB rfl); omega
        refine wpOp_none (((((((Y4.setCell ⟨Y0.heap.size, 0, none⟩ (.slice (some ⟨b, off, none⟩) n cap)).setCell ⟨Y0.heap.size, 1, none⟩ (.slice (some ⟨B, 0, none⟩) n n)).setCell ⟨Y0.heap.size, 2, none⟩ (.slice aao an ac)).setCell ⟨Y0.heap.size, 3, none⟩ (.slice (some ⟨CB, 0, none⟩) m ccap)).setCell ⟨Y0.heap.size, 4, none⟩ (.int .i64 (sn : Int))).setCell ⟨Y0.heap.size, 5, none⟩ (.slice (some ⟨Y1.heap.size, 0, none⟩) n n))) rfl (by rfl) (by rfl) (by go_simp) (And.intro (HSx.out _ _ (by have := y0.size; omega) _ _ _ _ _ _ (HSv.out _ y4)) ?_)
        refine wpAnyH_done (by kernel_rfl) ?_ _
        have u1 : Y0.heap.size ≠ Y1.heap.size := by omega
        have u3 : w3.heap.size <= Y0.heap.size := by have := y0.size; omega
        have u4 : w3.heap.size <= Y1.heap.size := by have := y1.size; omega
        have u5 : Y0.heap.size < ((((((Y4.setCell ⟨Y0.heap.size, 0, none⟩ (.slice (some ⟨b, off, none⟩) n cap)).setCell ⟨Y0.heap.size, 1, none⟩ (.slice (some ⟨B, 0, none⟩) n n)).setCell ⟨Y0.heap.size, 2, none⟩ (.slice aao an ac)).setCell ⟨Y0.heap.size, 3, none⟩ (.slice (some ⟨CB, 0, none⟩) m ccap)).setCell ⟨Y0.heap.size, 4, none⟩ (.int .i64 (sn : Int))).setCell ⟨Y0.heap.size, 5, none⟩ (.slice (some ⟨Y1.heap.size, 0, none⟩) n n)).heap.size := by simp only [World.size_setCell]; omega
        have u6 : CB < ((((((Y4.setCell ⟨Y0.heap.size, 0, none⟩ (.slice (some ⟨b, off, none⟩) n cap)).setCell ⟨Y0.heap.size, 1, none⟩ (.slice (some ⟨B, 0, none⟩) n n)).setCell ⟨Y0.heap.size, 2, none⟩ (.slice aao an ac)).setCell ⟨Y0.heap.size, 3, none⟩ (.slice (some ⟨CB, 0, none⟩) m ccap)).setCell ⟨Y0.heap.size, 4, none⟩ (.int .i64 (sn : Int))).setCell ⟨Y0.heap.size, 5, none⟩ (.slice (some ⟨Y1.heap.size, 0, none⟩) n n)).heap.size := by simp only [World.size_setCell]; omega
        have u7 : Y1.heap.size < ((((((Y4.setCell ⟨Y0.heap.size, 0, none⟩ (.slice (some ⟨b, off, none⟩) n cap)).setCell ⟨Y0.heap.size, 1, none⟩ (.slice (some ⟨B, 0, none⟩) n n)).setCell ⟨Y0.heap.size, 2, none⟩ (.slice aao an ac)).setCell ⟨Y0.heap.size, 3, none⟩ (.slice (some ⟨CB, 0, none⟩) m ccap)).setCell ⟨Y0.heap.size, 4, none⟩ (.int .i64 (sn : Int))).setCell ⟨Y0.heap.size, 5, none⟩ (.slice (some ⟨Y1.heap.size, 0, none⟩) n n)).heap.size := by simp only [World.size_setCell]; omega
        show FiRel _ _ _ _ _ _ _ _ _ _ _ _ _ _ _ _
        exact firel_mk (Y0.heap.size) CB ccap (Y1.heap.size) u1 hneC u3 u4 u5 u6 u7 HF.out
  case cont =>
    intro e a' Z h
    cases e with
    | normal =>
      obtain ⟨TB, CB, ccap, RB, ⟨t1, t2, t3, t4, t5, t6, t7⟩, HJ0, r, rfl⟩ := (show FiRel w w3 b off n cap B aao an ac m sn (ss ++ ll) t a' Z from h)
      have HJ : Hid (FiJ w w3 b off n cap B aao an ac m sn (ss ++ ll) t TB CB ccap RB 0 0 Z) := HJ0; clear h HJ0; unfold fiAct; have hbk := fun x y z w1 => callsIn_wide.1 (back_in Fence.wide 8 trivial rfl x y z w1)
      go_wp2_with (go_at_call 88; refine (hbk _ _ _ _).mono ?_; rintro e w4 ⟨rfl, hw4⟩)
      rw [<- hw4]; have hb4 : Below Z.heap.size Z w4 := by rw [hw4]; exact (Below.refl _ _).alloc (Nat.le_refl _) _
      have hz4 : w4.heap.size = Z.heap.size + 1 := by rw [hw4]; simp
      have hc4 : w4.cell? ⟨Z.heap.size, 0, none⟩ = some (.slice (some ⟨b, off, none⟩) n cap) := by rw [hw4]; simp [go_sem]
      have HJ4 : Hid (FiJ w w3 b off n cap B aao an ac m sn (ss ++ ll) t TB CB ccap RB w4.heap.size 0 w4) := by
        have h := HJ.out.later hb4; exact ⟨h.below, h.tab, h.lets, h.rows, Nat.le_refl _⟩
      have hbw4 : Below w.heap.size w w4 := hbw3.trans (HJ4.out.below.mono hbw3.size); have HO4 : Hid (OpsAt w4 b off l) := HAt.out.below hbw4 hbl; have hz3 := HJ4.out.below.size; clear hw4 hbk; refine wpIn_wide (n := 8).1 ?_
      refine range_by (m := 8) (N := n) (by decide) rfl (enters_of Tryz.func119 (by kernel_rfl) rfl) (backArg l n) (fun _ => rfl) (BackK w.heap.size Z.heap.size)
        (fun L J W hW hY h0 => back_by 7 L Z.heap.size w.heap.size b off n cap l HLN.out h60 hbl J hY W ((hW.cell (p := ⟨Z.heap.size, 0, none⟩) (by show Z.heap.size < _; omega)).trans hc4) (HO4.out.below hW (Nat.lt_of_lt_of_le hbl hbw4.size)) h0)
        backK_t (backK_b (by have := hbw4.size; omega) (by omega))
        (FiJ w w3 b off n cap B aao an ac m sn (ss ++ ll) t TB CB ccap RB w4.heap.size)
        (fun s A Bw row hs hg hr => hs.kept hg hr hz3 (by omega) (by omega) hs.size) HJ4.out
        (FiAx l n TB w4.heap.size) (fun k a' _ X Y row hs hg hr => by obtain ⟨Bx, h1, h2, h3, h4⟩ := hs; exact ⟨Bx, h1, cell_kept h2 hg (fun r e => (hr r e).2), cell_kept h3 hg (fun r e => (hr r e).2), h4⟩)
        ?assign ?body ?done
      case assign =>
        rintro L k W K hk hi hK
        unfold backArg
        gi_wp2
        refine hK _ _ ?ka ?kb ?kc ?kd
        case ka => exact (KeepsOthers.alloc _ _).from _
        case kb => exact ⟨(Below.refl _ W).alloc (by have := hbw4.size; have := hi.size; omega) _, Below.heap_alloc _ _ _ (by have := hi.size; omega)⟩
        case kc => exact hi.later ((Below.refl W.heap.size W).alloc (Nat.le_refl _) _)
        case kd => exact ⟨W.heap.size, hi.size, by simp [go_sem], by simp [go_sem], fun i => List.getD [_, _, _, _, _, _, _, _, _, _, _, _, undef, undef, undef, _, _, _, _, _, _, _, _, _, _, _, _, _, _, _, _, _, _, _, _, _, _, _, _, _, _, _, _, _, _, _, _, _, _, _, _, _, _, _, _, _, _, _, _, _, _, _, _, _, _, _, _, _, _, _, _, _, _, _, _, _, _, _, _, _, _] i undef, rfl⟩
      case body =>
        rintro L k a' W hk hi ⟨Bx, hBx, cx0, cx1, r', rfl⟩
        obtain ⟨p, hp⟩ : ∃ p, p = n - 1 - k := ⟨_, rfl⟩
        have hpn : p < n := by omega
        have HI2 : Hid (FiJ w w3 b off n cap B aao an ac m sn (ss ++ ll) t TB CB ccap RB w4.heap.size k W) := hi; rw [<- hp] at cx0 cx1; have hop := t.op_at (q := p) (by rw [<- t.ops_length, HTo.out, <- HLN.out]; exact hpn) (0, 0)
        rw [HTo.out] at hop; rw [hop] at cx0 cx1; simp only at cx0 cx1
        have HSix : Hid (∀ Y, Below W.heap.size W Y -> Y.cell? ⟨TB, 0, none⟩ = some (.slice (some ⟨b, off, none⟩) n cap) /\ Y.cell? ⟨TB, 1, none⟩ = some (.slice (some ⟨B, 0, none⟩) n n) /\ Y.cell? ⟨TB, 2, none⟩ = some (.slice aao an ac) /\ Y.cell? ⟨TB, 3, none⟩ = some (.slice (some ⟨CB, 0, none⟩) m ccap) /\ Y.cell? ⟨TB, 4, none⟩ = some (.int .i64 (sn : Int)) /\ Y.cell? ⟨TB, 5, none⟩ = some (.slice (some ⟨RB, 0, none⟩) n n)) := fun Y hb => by
          have h := (HI2.out.later hb).tab; exact ⟨h.k0, h.k1, h.k2, h.k3, h.k4, h.k5⟩
        obtain ⟨rv, HRo⟩ : ∃ rv : World -> Value, Hid (∀ Y, Below W.heap.size W Y -> Y.cell? ⟨RB, p, none⟩ = some (rv Y) /\ Y.frozen? ⟨RB, p, none⟩ = false) := ⟨fun Y => (Y.cell? ⟨RB, p, none⟩).getD undef, fun Y hb => by
          obtain ⟨f, h1, _⟩ := (HI2.out.later hb).rows
          exact ⟨by show _ = some ((Y.cell? ⟨RB, p, none⟩).getD undef); rw [h1.cell hpn]; rfl, h1.frozen p⟩⟩
        have HSt : Hid (∀ V u, Below W.heap.size W V -> (V.setCell ⟨RB, p, none⟩ u).cell? ⟨TB, 0, none⟩ = some (.slice (some ⟨b, off, none⟩) n cap) /\ (V.setCell ⟨RB, p, none⟩ u).cell? ⟨TB, 1, none⟩ = some (.slice (some ⟨B, 0, none⟩) n n) /\ (V.setCell ⟨RB, p, none⟩ u).cell? ⟨TB, 2, none⟩ = some (.slice aao an ac) /\ (V.setCell ⟨RB, p, none⟩ u).cell? ⟨TB, 3, none⟩ = some (.slice (some ⟨CB, 0, none⟩) m ccap) /\ (V.setCell ⟨RB, p, none⟩ u).cell? ⟨TB, 4, none⟩ = some (.int .i64 (sn : Int)) /\ (V.setCell ⟨RB, p, none⟩ u).cell? ⟨TB, 5, none⟩ = some (.slice (some ⟨RB, 0, none⟩) n n)) := fun V u hb => by
          have h := (HI2.out.later hb).tab; have hc : ∀ q, (V.setCell ⟨RB, p, none⟩ u).cell? ⟨TB, q, none⟩ = V.cell? ⟨TB, q, none⟩ := fun q => World.cell?_of_block (w := V) (Below.heap_setCell V _ _ TB t1)
          exact ⟨(hc 0).trans h.k0, (hc 1).trans h.k1, (hc 2).trans h.k2, (hc 3).trans h.k3, (hc 4).trans h.k4, (hc 5).trans h.k5⟩
        have HLaw : Hid (∀ Y, Below W.heap.size W Y -> Calls Tryz.prog 90 #[.agg #[.slice (some ⟨b, off, none⟩) n cap, .slice (some ⟨B, 0, none⟩) n n, .slice aao an ac, .slice (some ⟨CB, 0, none⟩) m ccap, .int .i64 (sn : Int), .slice (some ⟨RB, 0, none⟩) n n], .int .i64 (p : Int)] Y (LawPost Y m ((t.sub p).uT (sig (ss ++ ll) sn)) ((t.sub p).vT (sig (ss ++ ll) sn)))) := fun Y hb => by
          have h := HI2.out.later hb; have hwY := hbw3.trans (h.below.mono hbw3.size); refine law_any b off n cap B aao an ac CB m ccap sn RB p l (ss ++ ll) t props Y hwf HTo.out HLN.out.symm (HAt.out.below hwY hbl) hpn (fun q hq => lfirst_all HLf.out q (by rw [<- HLN.out]; exact hq)) HLt.out ?_
          obtain ⟨us, o1, o2⟩ := h.lets; obtain ⟨f, h1, h2⟩ := h.rows; have hrB := HR3.out.of_block (h.below.block B HR3.out.lt); refine ⟨fun j hj => hrB.cell hj, lettersV_of_owns o1 (o2.below hwY), fun q a1 a2 => ?_, hrB.lt, h1.lt, by rw [List.length_append, <- HSn.out, <- HLn.out, <- HM.out], h60, hm24, hsm⟩
          obtain ⟨rb, e1, e2⟩ := h2 q (by omega) a2
          exact ⟨rb, 0, m, by rw [h1.cell a2, e1], e2.lt, fun j hj => by rw [Nat.zero_add]; exact e2.cell hj⟩
        have HEnd : Hid (∀ V1 V2, Below W.heap.size W V1 -> Below W.heap.size W V2 -> Below V1.heap.size V1 V2 -> ∀ D, Hid (V2.rowIs (V1.heap.size + 1) 4 m (fun j => .bool (stp ((t.sub p).uT (sig (ss ++ ll) sn)) ((t.sub p).vT (sig (ss ++ ll) sn)) (stp ((t.sub p).uT (sig (ss ++ ll) sn)) ((t.sub p).vT (sig (ss ++ ll) sn)) D (m - sn) sn) (m - j) j))) -> Hid (D = Tm.dT (t.sub p).kind) -> KeepsFrom w4.heap.size W (V2.setCell ⟨RB, p, none⟩ (.slice (some ⟨V1.heap.size + 1, 0, none⟩) m m)) /\ BackK w.heap.size Z.heap.size W (V2.setCell ⟨RB, p, none⟩ (.slice (some ⟨V1.heap.size + 1, 0, none⟩) m m)) /\ FiJ w w3 b off n cap B aao an ac m sn (ss ++ ll) t TB CB ccap RB w4.heap.size (k + 1) (V2.setCell ⟨RB, p, none⟩ (.slice (some ⟨V1.heap.size + 1, 0, none⟩) m m))) := fun V1 V2 c1 c2 c3 D hrow hD => by
          have hls : (ss ++ ll).length = m := by rw [List.length_append, <- HSn.out, <- HLn.out, <- HM.out]
          have hper := sig_per (ls := ss ++ ll) (s := sn) (by rw [hls]; exact hsm)
          rw [hls] at hper
          have hr2 : V2.rowIs (V1.heap.size + 1) 4 m (fun j => .bool ((t.sub p).hb (sig (ss ++ ll) sn) j)) := hrow.out.congr fun j hj => by
            rw [hD.out, settle_is hsm (fun i hi => Tm.uT_per hper _ hi) (fun i hi => Tm.vT_per hper _ hi) (Nat.le_of_lt hj), <- Tm.hb_unt _ (Tm.sub_wf hwf p)]
          have hWz := HI2.out.size; have hw4 := hbw4.size; refine ⟨(KeepsFrom.trans ⟨c2.size, fun k _ _ hk _ => (c2.block k (Array.getElem?_eq_some_iff.1 hk).1).trans hk⟩ ((KeepsOthers.setCell _ _ _).from _)), ⟨(c2.mono (by omega)).setCell (by show w.heap.size <= RB; omega) _, (Below.heap_setCell V2 _ _ Z.heap.size (by show Z.heap.size ≠ RB; omega)).trans (c2.block _ (by omega))⟩, ?_⟩
          have hput := (HI2.out.later c2).put (rb := V1.heap.size + 1) hk t1 t2 t4 (by rw [<- hp]; exact hr2)
          rw [<- hp] at hput; exact hput
        have hp0 : (0 : Int) <= (p : Int) := Int.natCast_nonneg _; have hpI : (p : Int) < (n : Int) := by omega
        unfold rdAct; rw [<- hp]; clear HJ HJ4 HO4 hi hop hp; generalize (t.sub p).kind = kx at *; generalize (t.sub p).val = vx at *
        by_cases h18 : kx = 18
        · have HD : Hid (true = Tm.dT kx) := by show _ = _; rw [h18]; rfl
          subst h18
          gi_wp2
          refine region_round (fun Y => Y.cell? ⟨TB, 0, none⟩ = some (.slice (some ⟨b, off, none⟩) n cap) /\ Y.cell? ⟨TB, 1, none⟩ = some (.slice (some ⟨B, 0, none⟩) n n) /\ Y.cell? ⟨TB, 2, none⟩ = some (.slice aao an ac) /\ Y.cell? ⟨TB, 3, none⟩ = some (.slice (some ⟨CB, 0, none⟩) m ccap) /\ Y.cell? ⟨TB, 4, none⟩ = some (.int .i64 (sn : Int)) /\ Y.cell? ⟨TB, 5, none⟩ = some (.slice (some ⟨RB, 0, none⟩) n n)) hmx ?nd ?nl ?_
          case nd =>
            intro i o ho c; have hi : i < 11 := (Array.getElem?_eq_some_iff.1 ho).1
            have hc : i = 0 \/ i = 1 \/ i = 2 \/ i = 3 \/ i = 4 \/ i = 5 \/ i = 6 \/ i = 7 \/ i = 8 \/ i = 9 \/ i = 10 := by omega
            rcases hc with rfl | rfl | rfl | rfl | rfl | rfl | rfl | rfl | rfl | rfl | rfl <;> (obtain rfl := Option.some.inj ho; exact fun h => by cases h)
          case nl => exact fun ⟨_, _, h⟩ => h
          have hS2 := HSix.out W.drew (Below.refl _ _).drew; refine take_at (i := 0) (v := .pointer (some ⟨TB, 5, none⟩)) (some 70) rfl (by rfl) (by kernel_rfl) (by kernel_rfl) (by kernel_rfl) (fun _ _ _ h => h) (Or.inl ⟨by rfl, fun wq hSw => by obtain ⟨q0, q1, q2, q3, q4, q5⟩ := hSw; go_simp⟩) hS2 ?_
          simp only [Act.put, List.setIfInBounds_toArray, List.set_cons_succ, List.set_cons_zero]; refine take_at (i := 1) (v := .slice (some ⟨RB, 0, none⟩) n n) (some 71) rfl (by rfl) (by kernel_rfl) (by kernel_rfl) (by kernel_rfl) (fun _ _ _ h => h) (Or.inl ⟨by rfl, fun wq hSw => by obtain ⟨q0, q1, q2, q3, q4, q5⟩ := hSw; go_simp⟩) hS2 ?_
          simp only [Act.put, List.setIfInBounds_toArray, List.set_cons_succ, List.set_cons_zero]; refine take_at (i := 2) (v := .int .i64 (p : Int)) (some 72) rfl (by rfl) (by kernel_rfl) (by kernel_rfl) (by kernel_rfl) (fun _ _ _ h => h) (Or.inl ⟨by rfl, fun wq hSw => by obtain ⟨q0, q1, q2, q3, q4, q5⟩ := hSw; go_simp⟩) hS2 ?_
          simp only [Act.put, List.setIfInBounds_toArray, List.set_cons_succ, List.set_cons_zero]
          refine take_at (i := 3) (v := .agg #[.slice (some ⟨b, off, none⟩) n cap, .slice (some ⟨B, 0, none⟩) n n, .slice aao an ac, .slice (some ⟨CB, 0, none⟩) m ccap, .int .i64 (sn : Int), .slice (some ⟨RB, 0, none⟩) n n]) (some 73) rfl (by rfl) (by kernel_rfl) (by kernel_rfl) (by kernel_rfl) (fun _ _ _ h => h) (Or.inl ⟨by rfl, fun wq hSw => by obtain ⟨q0, q1, q2, q3, q4, q5⟩ := hSw; go_simp⟩) hS2 ?_
          simp only [Act.put, List.setIfInBounds_toArray, List.set_cons_succ, List.set_cons_zero]; refine take_at (i := 4) (v := .bool true) (some 74) rfl (by rfl) (by kernel_rfl) (by kernel_rfl) (by kernel_rfl) (fun _ _ _ h => h) (Or.inl ⟨by rfl, fun wq hSw => by obtain ⟨q0, q1, q2, q3, q4, q5⟩ := hSw; go_simp⟩) hS2 ?_
          simp only [Act.put, List.setIfInBounds_toArray, List.set_cons_succ, List.set_cons_zero]
          refine take_at (i := 5) (v := .agg #[.slice (some ⟨b, off, none⟩) n cap, .slice (some ⟨B, 0, none⟩) n n, .slice aao an ac, .slice (some ⟨CB, 0, none⟩) m ccap, .int .i64 (sn : Int), .slice (some ⟨RB, 0, none⟩) n n]) (some 75) rfl (by rfl) (by kernel_rfl) (by kernel_rfl) (by kernel_rfl) (fun _ _ _ h => h) (Or.inl ⟨by rfl, fun wq hSw => by obtain ⟨q0, q1, q2, q3, q4, q5⟩ := hSw; go_simp⟩) hS2 ?_
          simp only [Act.put, List.setIfInBounds_toArray, List.set_cons_succ, List.set_cons_zero]; refine take_at (i := 6) (v := .int .i64 (p : Int)) (some 76) rfl (by rfl) (by kernel_rfl) (by kernel_rfl) (by kernel_rfl) (fun _ _ _ h => h) (Or.inl ⟨by rfl, fun wq hSw => by obtain ⟨q0, q1, q2, q3, q4, q5⟩ := hSw; go_simp⟩) hS2 ?_
          simp only [Act.put, List.setIfInBounds_toArray, List.set_cons_succ, List.set_cons_zero]; refine wpAnyH_all (rs := [7]) (by kernel_rfl) (by decide) ?_
          refine all_one ?_
          refine wpOp_law (some 77) rfl (by rfl) (by rfl) (by go_simp) (HLaw.out W.drew (Below.refl _ _).drew) ?_
          intro f caps V1 s1 hF; have b1 : Below W.heap.size W V1 := (Below.refl _ _).drew.trans s1; refine And.intro (HSix.out V1 b1) ?_
          simp only [Act.put, List.setIfInBounds_toArray, List.set_cons_succ, List.set_cons_zero]; have hse := settle_any b off n cap B aao an ac CB m ccap sn RB true f caps _ _ V1 hm24 hsm hF; refine wpAnyH_all (rs := [8]) (by kernel_rfl) (by decide) ?_
          refine all_one ?_
          refine wpOp_ret (some 78) _ _ rfl (by rfl) (by rfl) (by go_simp) hse ?_
          intro V2 hV2; have s2 := hV2.1; have HRow := hV2.2; clear hse; have b2 : Below W.heap.size W V2 := b1.trans (s2.mono b1.size); refine And.intro (HSix.out V2 b2) ?_
          simp only [Act.put, List.setIfInBounds_toArray, List.set_cons_succ, List.set_cons_zero]; refine take_at (i := 9) (v := .pointer (some ⟨RB, p, none⟩)) (some 79) rfl (by rfl) (by kernel_rfl) (by kernel_rfl) (by kernel_rfl) (fun _ _ _ h => h) (Or.inl ⟨by rfl, fun wq hSw => by obtain ⟨q0, q1, q2, q3, q4, q5⟩ := hSw; go_simp⟩) (HSix.out V2 b2) ?_
          simp only [Act.put, List.setIfInBounds_toArray, List.set_cons_succ, List.set_cons_zero]; have hcr := (HRo.out V2 b2).1; have hfr := (HRo.out V2 b2).2; refine wpAnyH_all (rs := [10]) (by kernel_rfl) (by decide) ?_
          refine all_one ?_
          refine wpOp_none (V2.setCell ⟨RB, p, none⟩ (.slice (some ⟨V1.heap.size + 1, 0, none⟩) m m)) rfl (by rfl) (by rfl) (by go_simp) (And.intro (HSt.out V2 _ b2) ?_)
          refine wpAnyH_done (by kernel_rfl) ?_ _
          exact HEnd.out V1 V2 b1 b2 s2 true HRow HD
        · by_cases h16 : kx = 16
          · have HD : Hid (true = Tm.dT kx) := by show _ = _; rw [h16]; rfl
            subst h16
            gi_wp2
            refine region_round (fun Y => Y.cell? ⟨TB, 0, none⟩ = some (.slice (some ⟨b, off, none⟩) n cap) /\ Y.cell? ⟨TB, 1, none⟩ = some (.slice (some ⟨B, 0, none⟩) n n) /\ Y.cell? ⟨TB, 2, none⟩ = some (.slice aao an ac) /\ Y.cell? ⟨TB, 3, none⟩ = some (.slice (some ⟨CB, 0, none⟩) m ccap) /\ Y.cell? ⟨TB, 4, none⟩ = some (.int .i64 (sn : Int)) /\ Y.cell? ⟨TB, 5, none⟩ = some (.slice (some ⟨RB, 0, none⟩) n n)) hmx ?nd ?nl ?_
            case nd =>
              intro i o ho c; have hi : i < 11 := (Array.getElem?_eq_some_iff.1 ho).1
              have hc : i = 0 \/ i = 1 \/ i = 2 \/ i = 3 \/ i = 4 \/ i = 5 \/ i = 6 \/ i = 7 \/ i = 8 \/ i = 9 \/ i = 10 := by omega
              rcases hc with rfl | rfl | rfl | rfl | rfl | rfl | rfl | rfl | rfl | rfl | rfl <;> (obtain rfl := Option.some.inj ho; exact fun h => by cases h)
            case nl => exact fun ⟨_, _, h⟩ => h
            have hS2 := HSix.out W.drew (Below.refl _ _).drew; refine take_at (i := 0) (v := .pointer (some ⟨TB, 5, none⟩)) (some 70) rfl (by rfl) (by kernel_rfl) (by kernel_rfl) (by kernel_rfl) (fun _ _ _ h => h) (Or.inl ⟨by rfl, fun wq hSw => by obtain ⟨q0, q1, q2, q3, q4, q5⟩ := hSw; go_simp⟩) hS2 ?_
            simp only [Act.put, List.setIfInBounds_toArray, List.set_cons_succ, List.set_cons_zero]; refine take_at (i := 1) (v := .slice (some ⟨RB, 0, none⟩) n n) (some 71) rfl (by rfl) (by kernel_rfl) (by kernel_rfl) (by kernel_rfl) (fun _ _ _ h => h) (Or.inl ⟨by rfl, fun wq hSw => by obtain ⟨q0, q1, q2, q3, q4, q5⟩ := hSw; go_simp⟩) hS2 ?_
            simp only [Act.put, List.setIfInBounds_toArray, List.set_cons_succ, List.set_cons_zero]; refine take_at (i := 2) (v := .int .i64 (p : Int)) (some 72) rfl (by rfl) (by kernel_rfl) (by kernel_rfl) (by kernel_rfl) (fun _ _ _ h => h) (Or.inl ⟨by rfl, fun wq hSw => by obtain ⟨q0, q1, q2, q3, q4, q5⟩ := hSw; go_simp⟩) hS2 ?_
            simp only [Act.put, List.setIfInBounds_toArray, List.set_cons_succ, List.set_cons_zero]
            refine take_at (i := 3) (v := .agg #[.slice (some ⟨b, off, none⟩) n cap, .slice (some ⟨B, 0, none⟩) n n, .slice aao an ac, .slice (some ⟨CB, 0, none⟩) m ccap, .int .i64 (sn : Int), .slice (some ⟨RB, 0, none⟩) n n]) (some 73) rfl (by rfl) (by kernel_rfl) (by kernel_rfl) (by kernel_rfl) (fun _ _ _ h => h) (Or.inl ⟨by rfl, fun wq hSw => by obtain ⟨q0, q1, q2, q3, q4, q5⟩ := hSw; go_simp⟩) hS2 ?_
            simp only [Act.put, List.setIfInBounds_toArray, List.set_cons_succ, List.set_cons_zero]; refine take_at (i := 4) (v := .bool true) (some 74) rfl (by rfl) (by kernel_rfl) (by kernel_rfl) (by kernel_rfl) (fun _ _ _ h => h) (Or.inl ⟨by rfl, fun wq hSw => by obtain ⟨q0, q1, q2, q3, q4, q5⟩ := hSw; go_simp⟩) hS2 ?_
            simp only [Act.put, List.setIfInBounds_toArray, List.set_cons_succ, List.set_cons_zero]
            refine take_at (i := 5) (v := .agg #[.slice (some ⟨b, off, none⟩) n cap, .slice (some ⟨B, 0, none⟩) n n, .slice aao an ac, .slice (some ⟨CB, 0, none⟩) m ccap, .int .i64 (sn : Int), .slice (some ⟨RB, 0, none⟩) n n]) (some 75) rfl (by rfl) (by kernel_rfl) (by kernel_rfl) (by kernel_rfl) (fun _ _ _ h => h) (Or.inl ⟨by rfl, fun wq hSw => by obtain ⟨q0, q1, q2, q3, q4, q5⟩ := hSw; go_simp⟩) hS2 ?_
            simp only [Act.put, List.setIfInBounds_toArray, List.set_cons_succ, List.set_cons_zero]; refine take_at (i := 6) (v := .int .i64 (p : Int)) (some 76) rfl (by rfl) (by kernel_rfl) (by kernel_rfl) (by kernel_rfl) (fun _ _ _ h => h) (Or.inl ⟨by rfl, fun wq hSw => by obtain ⟨q0, q1, q2, q3, q4, q5⟩ := hSw; go_simp⟩) hS2 ?_
            simp only [Act.put, List.setIfInBounds_toArray, List.set_cons_succ, List.set_cons_zero]; refine wpAnyH_all (rs := [7]) (by kernel_rfl) (by decide) ?_
            refine all_one ?_
            refine wpOp_law (some 77) rfl (by rfl) (by rfl) (by go_simp) (HLaw.out W.drew (Below.refl _ _).drew) ?_
            intro f caps V1 s1 hF; have b1 : Below W.heap.size W V1 := (Below.refl _ _).drew.trans s1; refine And.intro (HSix.out V1 b1) ?_
            simp only [Act.put, List.setIfInBounds_toArray, List.set_cons_succ, List.set_cons_zero]; have hse := settle_any b off n cap B aao an ac CB m ccap sn RB true f caps _ _ V1 hm24 hsm hF; refine wpAnyH_all (rs := [8]) (by kernel_rfl) (by decide) ?_
            refine all_one ?_
            refine wpOp_ret (some 78) _ _ rfl (by rfl) (by rfl) (by go_simp) hse ?_
            intro V2 hV2; have s2 := hV2.1; have HRow := hV2.2; clear hse; have b2 : Below W.heap.size W V2 := b1.trans (s2.mono b1.size); refine And.intro (HSix.out V2 b2) ?_
            simp only [Act.put, List.setIfInBounds_toArray, List.set_cons_succ, List.set_cons_zero]; refine take_at (i := 9) (v := .pointer (some ⟨RB, p, none⟩)) (some 79) rfl (by rfl) (by kernel_rfl) (by kernel_rfl) (by kernel_rfl) (fun _ _ _ h => h) (Or.inl ⟨by rfl, fun wq hSw => by obtain ⟨q0, q1, q2, q3, q4, q5⟩ := hSw; go_simp⟩) (HSix.out V2 b2) ?_
            simp only [Act.put, List.setIfInBounds_toArray, List.set_cons_succ, List.set_cons_zero]; have hcr := (HRo.out V2 b2).1; have hfr := (HRo.out V2 b2).2; refine wpAnyH_all (rs := [10]) (by kernel_rfl) (by decide) ?_
            refine all_one ?_
            refine wpOp_none (V2.setCell ⟨RB, p, none⟩ (.slice (some ⟨V1.heap.size + 1, 0, none⟩) m m)) rfl (by rfl) (by rfl) (by go_simp) (And.intro (HSt.out V2 _ b2) ?_)
            refine wpAnyH_done (by kernel_rfl) ?_ _
            exact HEnd.out V1 V2 b1 b2 s2 true HRow HD
          · have HD : Hid (false = Tm.dT kx) := by show _ = _; simp [Tm.dT, h18, h16]
            gi_wp2
            refine region_round (fun Y => Y.cell? ⟨TB, 0, none⟩ = some (.slice (some ⟨b, off, none⟩) n cap) /\ Y.cell? ⟨TB, 1, none⟩ = some (.slice (some ⟨B, 0, none⟩) n n) /\ Y.cell? ⟨TB, 2, none⟩ = some (.slice aao an ac) /\ Y.cell? ⟨TB, 3, none⟩ = some (.slice (some ⟨CB, 0, none⟩) m ccap) /\ Y.cell? ⟨TB, 4, none⟩ = some (.int .i64 (sn : Int)) /\ Y.cell? ⟨TB, 5, none⟩ = some (.slice (some ⟨RB, 0, none⟩) n n)) hmx ?nd ?nl ?_
            case nd =>
              intro i o ho c; have hi : i < 11 := (Array.getElem?_eq_some_iff.1 ho).1
              have hc : i = 0 \/ i = 1 \/ i = 2 \/ i = 3 \/ i = 4 \/ i = 5 \/ i = 6 \/ i = 7 \/ i = 8 \/ i = 9 \/ i = 10 := by omega
              rcases hc with rfl | rfl | rfl | rfl | rfl | rfl | rfl | rfl | rfl | rfl | rfl <;> (obtain rfl := Option.some.inj ho; exact fun h => by cases h)
            case nl => exact fun ⟨_, _, h⟩ => h
            have hS2 := HSix.out W.drew (Below.refl _ _).drew; refine take_at (i := 0) (v := .pointer (some ⟨TB, 5, none⟩)) (some 70) rfl (by rfl) (by kernel_rfl) (by kernel_rfl) (by kernel_rfl) (fun _ _ _ h => h) (Or.inl ⟨by rfl, fun wq hSw => by obtain ⟨q0, q1, q2, q3, q4, q5⟩ := hSw; go_simp⟩) hS2 ?_
            simp only [Act.put, List.setIfInBounds_toArray, List.set_cons_succ, List.set_cons_zero]; refine take_at (i := 1) (v := .slice (some ⟨RB, 0, none⟩) n n) (some 71) rfl (by rfl) (by kernel_rfl) (by kernel_rfl) (by kernel_rfl) (fun _ _ _ h => h) (Or.inl ⟨by rfl, fun wq hSw => by obtain ⟨q0, q1, q2, q3, q4, q5⟩ := hSw; go_simp⟩) hS2 ?_
            simp only [Act.put, List.setIfInBounds_toArray, List.set_cons_succ, List.set_cons_zero]; refine take_at (i := 2) (v := .int .i64 (p : Int)) (some 72) rfl (by rfl) (by kernel_rfl) (by kernel_rfl) (by kernel_rfl) (fun _ _ _ h => h) (Or.inl ⟨by rfl, fun wq hSw => by obtain ⟨q0, q1, q2, q3, q4, q5⟩ := hSw; go_simp⟩) hS2 ?_
            simp only [Act.put, List.setIfInBounds_toArray, List.set_cons_succ, List.set_cons_zero]
            refine take_at (i := 3) (v := .agg #[.slice (some ⟨b, off, none⟩) n cap, .slice (some ⟨B, 0, none⟩) n n, .slice aao an ac, .slice (some ⟨CB, 0, none⟩) m ccap, .int .i64 (sn : Int), .slice (some ⟨RB, 0, none⟩) n n]) (some 73) rfl (by rfl) (by kernel_rfl) (by kernel_rfl) (by kernel_rfl) (fun _ _ _ h => h) (Or.inl ⟨by rfl, fun wq hSw => by obtain ⟨q0, q1, q2, q3, q4, q5⟩ := hSw; go_simp⟩) hS2 ?_
            simp only [Act.put, List.setIfInBounds_toArray, List.set_cons_succ, List.set_cons_zero]; refine take_at (i := 4) (v := .bool false) (some 74) rfl (by rfl) (by kernel_rfl) (by kernel_rfl) (by kernel_rfl) (fun _ _ _ h => h) (Or.inl ⟨by rfl, fun wq hSw => by obtain ⟨q0, q1, q2, q3, q4, q5⟩ := hSw; go_simp⟩) hS2 ?_
            simp only [Act.put, List.setIfInBounds_toArray, List.set_cons_succ, List.set_cons_zero]
            refine take_at (i := 5) (v := .agg #[.slice (some ⟨b, off, none⟩) n cap, .slice (some ⟨B, 0, none⟩) n n, .slice aao an ac, .slice (some ⟨CB, 0, none⟩) m ccap, .int .i64 (sn : Int), .slice (some ⟨RB, 0, none⟩) n n]) (some 75) rfl (by rfl) (by kernel_rfl) (by kernel_rfl) (by kernel_rfl) (fun _ _ _ h => h) (Or.inl ⟨by rfl, fun wq hSw => by obtain ⟨q0, q1, q2, q3, q4, q5⟩ := hSw; go_simp⟩) hS2 ?_
            simp only [Act.put, List.setIfInBounds_toArray, List.set_cons_succ, List.set_cons_zero]; refine take_at (i := 6) (v := .int .i64 (p : Int)) (some 76) rfl (by rfl) (by kernel_rfl) (by kernel_rfl) (by kernel_rfl) (fun _ _ _ h => h) (Or.inl ⟨by rfl, fun wq hSw => by obtain ⟨q0, q1, q2, q3, q4, q5⟩ := hSw; go_simp⟩) hS2 ?_
            simp only [Act.put, List.setIfInBounds_toArray, List.set_cons_succ, List.set_cons_zero]; refine wpAnyH_all (rs := [7]) (by kernel_rfl) (by decide) ?_
            refine all_one ?_
            refine wpOp_law (some 77) rfl (by rfl) (by rfl) (by go_simp) (HLaw.out W.drew (Below.refl _ _).drew) ?_
            intro f caps V1 s1 hF; have b1 : Below W.heap.size W V1 := (Below.refl _ _).drew.trans s1; refine And.intro (HSix.out V1 b1) ?_
            simp only [Act.put, List.setIfInBounds_toArray, List.set_cons_succ, List.set_cons_zero]; have hse := settle_any b off n cap B aao an ac CB m ccap sn RB false f caps _ _ V1 hm24 hsm hF; refine wpAnyH_all (rs := [8]) (by kernel_rfl) (by decide) ?_
            refine all_one ?_
            refine wpOp_ret (some 78) _ _ rfl (by rfl) (by rfl) (by go_simp) hse ?_
            intro V2 hV2; have s2 := hV2.1; have HRow := hV2.2; clear hse; have b2 : Below W.heap.size W V2 := b1.trans (s2.mono b1.size); refine And.intro (HSix.out V2 b2) ?_
            simp only [Act.put, List.setIfInBounds_toArray, List.set_cons_succ, List.set_cons_zero]; refine take_at (i := 9) (v := .pointer (some ⟨RB, p, none⟩)) (some 79) rfl (by rfl) (by kernel_rfl) (by kernel_rfl) (by kernel_rfl) (fun _ _ _ h => h) (Or.inl ⟨by rfl, fun wq hSw => by obtain ⟨q0, q1, q2, q3, q4, q5⟩ := hSw; go_simp⟩) (HSix.out V2 b2) ?_
            simp only [Act.put, List.setIfInBounds_toArray, List.set_cons_succ, List.set_cons_zero]; have hcr := (HRo.out V2 b2).1; have hfr := (HRo.out V2 b2).2; refine wpAnyH_all (rs := [10]) (by kernel_rfl) (by decide) ?_
            refine all_one ?_
            refine wpOp_none (V2.setCell ⟨RB, p, none⟩ (.slice (some ⟨V1.heap.size + 1, 0, none⟩) m m)) rfl (by rfl) (by rfl) (by go_simp) (And.intro (HSt.out V2 _ b2) ?_)
            refine wpAnyH_done (by kernel_rfl) ?_ _
            exact HEnd.out V1 V2 b1 b2 s2 false HRow HD
      case done =>
        rintro D W hD hi hK
        have g7 := HG6.out.below hi.below HG6.out.hl; have k0 := hi.tab.k0; have j0 := g7.k0; have f0 := g7.f0; have k1 := hi.tab.k1; have j1 := g7.k1; have f1 := g7.f1; have k2 := hi.tab.k2; have j2 := g7.k2; have f2 := g7.f2; have k3 := hi.tab.k3; have j3 := g7.k3; have f3 := g7.f3; have k4 := hi.tab.k4; have j4 := g7.k4; have f4 := g7.f4; have k5 := hi.tab.k5; have j5 := g7.k5
        have f5 := g7.f5; have hDs : w3.heap.size <= D := by omega
        obtain ⟨V, hV⟩ : ∃ V, V = ((((((W.setCell ⟨w.heap.size + 1, 0, none⟩ (.slice (some ⟨b, off, none⟩) n cap)).setCell ⟨w.heap.size + 1, 1, none⟩ (.slice (some ⟨B, 0, none⟩) n n)).setCell ⟨w.heap.size + 1, 2, none⟩ (.slice aao an ac)).setCell ⟨w.heap.size + 1, 3, none⟩ (.slice (some ⟨CB, 0, none⟩) m ccap)).setCell ⟨w.heap.size + 1, 4, none⟩ (.int .i64 (sn : Int))).setCell ⟨w.heap.size + 1, 5, none⟩ (.slice (some ⟨RB, 0, none⟩) n n)) := ⟨_, rfl⟩
        have hVb : ∀ z, z ≠ w.heap.size + 1 -> V.heap[z]? = W.heap[z]? := fun z hz => by rw [hV]; exact chain_block W _ z hz _ _ _ _ _ _
        have hVz : V.heap.size = W.heap.size := by rw [hV]; simp
        have hDne : D ≠ w.heap.size + 1 := by have := HG6.out.hl; omega
        have hVD : V.heap[D]? = some (.deferred (some [])) := (hVb D hDne).trans hK; obtain ⟨U, hU⟩ : ∃ U, U = V.putObj D (.deferred none) := ⟨_, rfl⟩
        have hUb : ∀ z, z ≠ w.heap.size + 1 -> z ≠ D -> U.heap[z]? = W.heap[z]? := fun z hz hzD => by rw [hU]; exact (World.putObj_heap_other hzD).trans (hVb z hz)
        have hUz : U.heap.size = W.heap.size := by rw [hU, <- hVz]; simp [World.putObj]
        have hUq : ∀ i, U.cell? ⟨w.heap.size + 1, i, none⟩ = V.cell? ⟨w.heap.size + 1, i, none⟩ := fun i => World.cell?_of_block (w := V) (by rw [hU]; exact World.putObj_heap_other (Ne.symm hDne))
        obtain ⟨c0, c1, c2, c3, c4, c5⟩ := g7.chain (.slice (some ⟨b, off, none⟩) n cap) (.slice (some ⟨B, 0, none⟩) n n) (.slice aao an ac) (.slice (some ⟨CB, 0, none⟩) m ccap) (.int .i64 (sn : Int)) (.slice (some ⟨RB, 0, none⟩) n n); rw [<- hV] at c0 c1 c2 c3 c4 c5; have e0 := (hUq 0).trans c0; have e1 := (hUq 1).trans c1; have e2 := (hUq 2).trans c2; have e3 := (hUq 3).trans c3
        have e4 := (hUq 4).trans c4; have e5 := (hUq 5).trans c5; have hbW : Below w.heap.size w W := hbw3.trans (hi.below.mono hbw3.size)
        have HFin : Hid (Below w.heap.size w U /\ FillOut U n m RB aao an ac l t (sig (ss ++ ll) sn)) := by
          have hres := HG6.out.hl; refine ⟨?_, ?_, by rw [hUz]; have := hi.size; omega, fun q hq => ?_⟩
          · rw [hU]
            have hv0 : Below w.heap.size w V := by
              rw [hV]; exact (((((hbW.setCell (Nat.le_succ w.heap.size) _).setCell (Nat.le_succ w.heap.size) _).setCell (Nat.le_succ w.heap.size) _).setCell (Nat.le_succ w.heap.size) _).setCell (Nat.le_succ w.heap.size) _).setCell (Nat.le_succ w.heap.size) _
            exact hv0.trans (belowK_b (w := w3) (by omega) V D _ _ hDs hVD rfl rfl)
          · have hown : U.ownsRow (w.heap.size + 1 + 1) 3 1 (.slice aao an ac) an (ivals (aheadL l)) := by
              obtain ⟨o1, o2⟩ := HI3.out; refine ⟨o1, ?_⟩
              rcases o2 with o2 | ⟨g, cap', cur, hv, hg, hh, r⟩
              · exact .inl o2
              · have hgl := (Array.getElem?_eq_some_iff.1 hh).1
                exact .inr ⟨g, cap', cur, hv, hg, (hUb g (by omega) (by omega)).trans ((hi.below.block g hgl).trans hh), r⟩
            rw [HAN.out] at hown ⊢; exact intsV_of_owns hown
          · obtain ⟨f, h1, h2⟩ := hi.rows
            obtain ⟨rb, g1, g2⟩ := h2 q (by omega) hq
            have hne : ∀ z ty k f, W.rowIs z ty k f -> z ≠ D := fun z ty k f hr => by
              rintro rfl
              obtain ⟨cc, hh, _⟩ := hr; rw [hK] at hh; cases hh
            have hn1 : RB ≠ w.heap.size + 1 := by omega
            have hn2 : rb ≠ w.heap.size + 1 := by
              rintro rfl
              obtain ⟨cc, hh, hs1, hc1⟩ := g2; have := j0; simp only [World.cell?, hh] at this; have hm0 : 0 < m := by omega
              rw [hc1 0 hm0] at this
              cases this
            have r1 := h1.of_block (hUb RB hn1 (hne _ _ _ _ h1)); have r2 := g2.of_block (hUb rb hn2 (hne _ _ _ _ g2)); exact ⟨rb, by rw [r1.cell hq, g1], r2.lt, fun j hj => r2.cell hj⟩
        clear HJ HJ4 HO4
        go_wp2_with fail
        rw [<- hV]; refine ⟨by simp, .inl ⟨_, _, rfl, run_takeDeferred hVD, ?_⟩⟩
        rw [<- hU]; refine ⟨.tuple #[.agg #[.slice (some ⟨b, off, none⟩) n cap, .slice (some ⟨B, 0, none⟩) n n, .slice aao an ac, .slice (some ⟨CB, 0, none⟩) m ccap, .int .i64 (sn : Int), .slice (some ⟨RB, 0, none⟩) n n], .int .i64 0], ?_, HQ.out _ U B aao ac CB ccap RB rfl HFin.out.1 HFin.out.2⟩
        simp [results, Tryz.results54, go_sem, e0, e1, e2, e3, e4, e5]
    | _ => exact h.elim
end Go.Proofs.YtjdfdmamonjnoaaGreatDoor
namespace Go.Proofs.YtjdfdmamonjnoaaGreatDoor
open Go.ChangeShapes Go.WideShapes Go.ChangeAt Go.RowKit Go.Deep
open Terms
set_option maxHeartbeats 6400000
set_option maxRecDepth 20000
def mocode (props : Int) (l : List (Int × Int)) (ss ll : List (List Bool)) : Int := if lcode props l ≠ 0 then lcode props l else wdcode props ss ll
theorem mocode_zero {props : Int} {l : List (Int × Int)} {ss ll : List (List Bool)} (h : mocode props l ss ll = 0) : lcode props l = 0 /\ wdcode props ss ll = 0 := by
  unfold mocode at h
  split at h
  · rename_i h1; exact absurd h h1
  · rename_i h1; exact ⟨by simpa using h1, h⟩
def RowT (W : World) (rb m : Nat) (h : Nat -> Bool) : Prop := rb < W.heap.size /\ ∀ j, j < m -> W.cell? ⟨rb, j, none⟩ = some (.bool (h j))
theorem moments_ok (v sv lv : Value) (l : List (Int × Int)) (ss ll : List (List Bool)) (props : Int) (t : Tm) (w : World) (hB : 0 < w.heap.size) (hT : TabAt w) (hV : OpsV w v l) (hS : LettersV w sv ss) (hL : LettersV w lv ll) (hc : mocode props l ss ll = 0) (hwf : t.Wf) (hto : t.ops = l) :
    Calls Tryz.prog 38 #[v, .agg #[sv, lv], .int .i64 props] w fun e w' => ∃ rb, e = .returned (.tuple #[.slice (some ⟨rb, 0, none⟩) (ss.length + ll.length) (ss.length + ll.length), .int .i64 0]) /\ Below w.heap.size w w' /\ Hid (RowT w' rb (ss.length + ll.length) (t.hb (sig (ss ++ ll) ss.length))) := by
  obtain ⟨hc1, hc2⟩ := mocode_zero hc; obtain ⟨_, _, hz, _, _⟩ := lcode_zero hc1; obtain ⟨hne, h60⟩ := ends_ne hz; obtain ⟨_, h12, h1, hl12, _⟩ := wdcode_zero hc2; rw [List.length_map] at h60; obtain ⟨so, sc, rfl⟩ := hS.shape; obtain ⟨lo, lc, rfl⟩ := hL.shape; obtain ⟨vo, vc, rfl, ⟨hcap, _⟩, hvv⟩ := id hV; obtain ⟨b, off, rfl, hbl, hat⟩ := hvv (by rintro rfl; exact hne rfl)
  have hl0 : 0 < l.length := by
    cases l with
    | nil => exact absurd rfl hne
    | cons _ _ => simp
  have hfi : ∀ w0, Below w.heap.size w w0 -> Calls Tryz.prog 54 #[.slice (some ⟨b, off, none⟩) l.length vc, .agg #[.slice so ss.length sc, .slice lo ll.length lc], .int .i64 props] w0 fun e w' => ∃ B aao ac CB ccap RB rb, e = .returned (.tuple #[.agg #[.slice (some ⟨b, off, none⟩) l.length vc, .slice (some ⟨B, 0, none⟩) l.length l.length, .slice aao (aheadL l).length ac, .slice (some ⟨CB, 0, none⟩) (ss.length + ll.length) ccap, .int .i64 (ss.length : Int), .slice (some ⟨RB, 0, none⟩) l.length l.length], .int .i64 0]) /\ Below w.heap.size w w' /\ RB < w'.heap.size /\ w'.cell? ⟨RB, 0, none⟩ = some (.slice (some ⟨rb, 0, none⟩) (ss.length + ll.length) (ss.length + ll.length)) /\ Hid (RowT w' rb (ss.length + ll.length) (t.hb (sig (ss ++ ll) ss.length))) := fun w0 hb => (fill_ok b off vc l.length so lo ss.length sc ll.length lc l ss ll props t w0 (Nat.lt_of_lt_of_le hB hb.size) (hT.below hb hB) rfl (Nat.lt_of_lt_of_le hbl hb.size) (hat.below hb hbl) hcap rfl rfl (hS.below hb) (hL.below hb) hc1 hc2 hwf hto).mono fun e w' ⟨B, aao, ac, CB, ccap, RB, h1, h2, h3, h4, h5⟩ => by
    obtain ⟨rb, e1, e2, e3⟩ := h5 0 hl0; rw [Tm.sub_zero] at e3; exact ⟨B, aao, ac, CB, ccap, RB, rb, h1, hb.trans (h2.mono hb.size), h4, e1, e2, e3⟩
  have hf1 := fun o => hfi (w.alloc o) ((Below.refl _ _).alloc (Nat.le_refl _) o)
  have hln0 : (0 : Int) < (l.length : Int) := by omega
  generalize t.hb (sig (ss ++ ll) ss.length) = hh at *; generalize (aheadL l).length = an at *; generalize ss.length = sn at *; generalize ll.length = ln at *; generalize l.length = n at *; clear hT hV hS hL hc hc1 hc2 hz hne hvv hat hto hfi
  go_enter Tryz.func38, Tryz.ntmps38
  go_wp2_with (go_at_call 54; refine (hf1 _).mono ?_; rintro e w1 ⟨B, aao, ac, CB, ccap, RB, rb, rfl, hb1, hRl, hcr, HR⟩; have hcr2 := (fun o => ((((Below.refl w1.heap.size w1).alloc (Nat.le_refl _) o).cell (p := ⟨RB, 0, none⟩) hRl).trans hcr)))
  go_ret2
  have hb2 := hb1.alloc hb1.size (.cells #[.slice (some ⟨b, off, none⟩) n vc, .slice (some ⟨B, 0, none⟩) n n, .slice aao an ac, .slice (some ⟨CB, 0, none⟩) (sn + ln) ccap, .int .i64 (sn : Int), .slice (some ⟨RB, 0, none⟩) n n] 131); refine ⟨rb, rfl, hb2, ?_, fun j hj => ?_⟩
  · simp; have := HR.out.1; omega
  · exact (((Below.refl w1.heap.size w1).alloc (Nat.le_refl _) _).cell (p := ⟨rb, j, none⟩) HR.out.1).trans (HR.out.2 j hj)
theorem holds_ok (v sv lv : Value) (l : List (Int × Int)) (ss ll : List (List Bool)) (props : Int) (t : Tm) (w : World) (hB : 0 < w.heap.size) (hT : TabAt w) (hV : OpsV w v l) (hS : LettersV w sv ss) (hL : LettersV w lv ll) (hc : mocode props l ss ll = 0) (hwf : t.Wf) (hto : t.ops = l) :
    Calls Tryz.prog 18 #[v, .agg #[sv, lv], .int .i64 props] w fun e w' => e = .returned (.tuple #[.bool (t.hb (sig (ss ++ ll) ss.length) 0), .int .i64 0]) /\ Below w.heap.size w w' := by
  have hA : ∀ o, Below w.heap.size w (w.alloc o) := fun o => (Below.refl _ _).alloc (Nat.le_refl _) o
  have hfa : ∀ o, Calls Tryz.prog 38 #[v, .agg #[sv, lv], .int .i64 props] (w.alloc o) fun e w' => ∃ rb, e = .returned (.tuple #[.slice (some ⟨rb, 0, none⟩) (ss.length + ll.length) (ss.length + ll.length), .int .i64 0]) /\ Below w.heap.size w w' /\ Hid (RowT w' rb (ss.length + ll.length) (t.hb (sig (ss ++ ll) ss.length))) := fun o => (moments_ok v sv lv l ss ll props t (w.alloc o) (by simp) (hT.below (hA o) hB) (hV.below (hA o)) (hS.below (hA o)) (hL.below (hA o)) hc hwf hto).mono fun e w' ⟨rb, h1, h2, h3⟩ => ⟨rb, h1, (hA o).trans (h2.mono (hA o).size), h3⟩
  obtain ⟨_, h12, h1, hl12, _⟩ := wdcode_zero (mocode_zero hc).2; obtain ⟨so, sc, rfl⟩ := hS.shape; obtain ⟨lo, lc, rfl⟩ := hL.shape; obtain ⟨vo, vc, rfl, _⟩ := id hV; generalize t.hb (sig (ss ++ ll) ss.length) = hh at *; generalize ss.length = sn at *; generalize ll.length = ln at *; generalize l.length = n at *; obtain ⟨m, hm⟩ : ∃ m, m = sn + ln := ⟨_, rfl⟩
  rw [<- hm] at hfa; have hm0 : 0 < m := by omega
  have hm1 : (0 : Int) < (m : Int) := by omega
  clear hT hV hS hL hc hto hm
  go_enter Tryz.func18, Tryz.ntmps18
  go_wp2_with (go_at_call 38; refine (hfa _).mono ?_; rintro e w1 ⟨rb, rfl, hb1, HR⟩; have hcr := HR.out.2 0 hm0)
  go_ret2
  exact ⟨rfl, hb1⟩
end Go.Proofs.YtjdfdmamonjnoaaGreatDoor
