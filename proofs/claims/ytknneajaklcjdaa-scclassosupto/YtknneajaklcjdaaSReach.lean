/-
  The contract of scc.Reached.
-/
import Derived.Test.YtknneajaklcjdaaLook
import Derived.Test.YtknneajaklcjdaaFirsts
import Derived.Test.YtknneajaklcjdaaRefReach
namespace Go.Proofs.Ytknneajaklcjdaa
open Go.ChangeShapes Go.WideShapes Go.ChangeAt Go.RowKit Go.Deep Go.Maps
open Terms

/-- which spots are reached. -/
noncomputable def reachL (g : Gr) : List Bool := reachB (nxt g) (List.range g.init.toNat) g.spots.length
/-- what the calls ask of sizes. -/
structure GrLe (g : Gr) : Prop where
  spots : g.spots.length ≤ 140737488355328
  next : g.next.length ≤ 140737488355328
  sets : g.sets.length ≤ 140737488355328
  rows : ∀ i, i < g.next.length → (g.next.getD i []).length ≤ 140737488355328
open Classical in
theorem reachB_at {nx : Nat → List Nat} {fr : List Nat} {n j : Nat} (hj : j < n) : (reachB nx fr n).getD j false = decide (∃ f ∈ fr, Way nx f j) := by
  simp [reachB, List.getD_eq_getElem?_getD, hj]
theorem reachB_length (nx : Nat → List Nat) (fr : List Nat) (n : Nat) : (reachB nx fr n).length = n := by simp [reachB]

set_option maxHeartbeats 1600000 in
set_option maxRecDepth 20000 in
theorem sreached_bad (so no bo : Option Addr) (sc nc bc : Nat) (g : Gr) (w : World) (hz : GrLe g) (hV : GraphV w (.slice so g.spots.length sc) (.slice no g.next.length nc) (.slice bo g.sets.length bc) g) (hc : ¬ gcode g = 0) :
    Calls Try.prog 24 #[.agg #[.slice so g.spots.length sc, .int .i64 g.init, .slice no g.next.length nc, .slice bo g.sets.length bc, .int .i64 g.many]] w fun e w' => e = .returned (.tuple #[.slice none 0 0, .int .i64 9]) ∧ Below w.heap.size w w' := by
  have hA : ∀ o, Below w.heap.size w (w.alloc o) := fun o => (Below.refl _ _).alloc (Nat.le_refl _) o
  have hch := fun o => scheck_any so no bo sc nc bc g (w.alloc o) hz.spots hz.next hz.sets hz.rows (hV.below (hA o))
  rw [gcode_nine hc] at hch
  clear hV hz hc
  generalize g.spots.length = sn at *
  generalize g.next.length = nn at *
  generalize g.sets.length = bn at *
  generalize g.init = gi at *
  generalize g.many = gm at *
  go_enter Try.func24, Try.ntmps24
  go_wp2_with (go_at_call 17; refine (hch _).mono ?_; rintro e w1 ⟨rfl, hb1⟩)
  go_ret2
  exact ⟨rfl, (hA _).trans (hb1.mono (hA _).size)⟩

set_option maxHeartbeats 3200000 in
set_option maxRecDepth 20000 in
theorem sreached_ok (so no bo : Option Addr) (sc nc bc : Nat) (g : Gr) (w : World) (hz : GrLe g) (hV : GraphV w (.slice so g.spots.length sc) (.slice no g.next.length nc) (.slice bo g.sets.length bc) g) (hc : gcode g = 0) :
    Calls Try.prog 24 #[.agg #[.slice so g.spots.length sc, .int .i64 g.init, .slice no g.next.length nc, .slice bo g.sets.length bc, .int .i64 g.many]] w fun e w' => ∃ vo vc, e = .returned (.tuple #[.slice vo g.spots.length vc, .int .i64 0]) ∧ Below w.heap.size w w' ∧ Hid (BoolsV w' (.slice vo g.spots.length vc) (reachL g)) := by
  have hok := gcode_zero hc
  obtain ⟨W0, hW0⟩ : ∃ W0, W0 = w.alloc (.cells #[.slice so g.spots.length sc, .int .i64 g.init, .slice no g.next.length nc, .slice bo g.sets.length bc, .int .i64 g.many] 26) := ⟨_, rfl⟩
  have hA : Below w.heap.size w W0 := by rw [hW0]; exact (Below.refl _ _).alloc (Nat.le_refl _) _
  have hs0 : w.heap.size < W0.heap.size := by rw [hW0]; simp
  have HD : Hid (∀ w1, Below W0.heap.size W0 w1 → Below w.heap.size w w1 ∧ w1.cell? ⟨w.heap.size, 0, none⟩ = some (.slice so g.spots.length sc) ∧ w1.cell? ⟨w.heap.size, 1, none⟩ = some (.int .i64 g.init) ∧ w1.cell? ⟨w.heap.size, 2, none⟩ = some (.slice no g.next.length nc) ∧ w1.cell? ⟨w.heap.size, 3, none⟩ = some (.slice bo g.sets.length bc) ∧ w1.cell? ⟨w.heap.size, 4, none⟩ = some (.int .i64 g.many)) := fun w1 hb => by
    have c : ∀ j, w1.cell? ⟨w.heap.size, j, none⟩ = W0.cell? ⟨w.heap.size, j, none⟩ := fun j => hb.cell (p := ⟨w.heap.size, j, none⟩) hs0
    refine ⟨hA.trans (hb.mono hA.size), (c _).trans ?_, (c _).trans ?_, (c _).trans ?_, (c _).trans ?_, (c _).trans ?_⟩ <;> (rw [hW0]; simp [go_sem])
  have hch := scheck_any so no bo sc nc bc g W0 hz.spots hz.next hz.sets hz.rows (hV.below hA)
  rw [hc] at hch
  obtain ⟨gi, hgi⟩ : ∃ gi : Nat, g.init = gi := ⟨g.init.toNat, by have := hok.head.init0; omega⟩
  have hgn : gi ≤ g.spots.length := by have := hok.head.init1; omega
  have hn := hok.head.n
  have HFi : Hid (∀ w1, Calls Try.prog 28 #[.agg #[.slice so g.spots.length sc, .int .i64 (gi : Int), .slice no g.next.length nc, .slice bo g.sets.length bc, .int .i64 g.many]] w1 fun e w' => ∃ vo vc, e = .returned (.slice vo (List.range gi).length vc) ∧ Below w1.heap.size w1 w' ∧ NatsV w' (.slice vo (List.range gi).length vc) (List.range gi)) := fun w1 => firsts_any so no bo _ sc _ nc _ bc gi g.many w1 (by omega)
  have HLo : Hid (∀ w1 vo vc, Below W0.heap.size W0 w1 → NatsV w1 (.slice vo (List.range gi).length vc) (List.range gi) → Calls Try.prog 37 #[.agg #[.slice so g.spots.length sc, .int .i64 (gi : Int), .slice no g.next.length nc, .slice bo g.sets.length bc, .int .i64 g.many], .slice vo (List.range gi).length vc, .func (.func 29) #[] #[], .func (.func 38) #[] #[]] w1 fun e w' => ∃ L r, e = .returned (.tuple #[.int .i64 r, .map (some (w1.heap.size + 2))]) ∧ Below w1.heap.size w1 w' ∧ Hid (CameIs w' (w1.heap.size + 2) L ∧ ∀ x, x ∈ keys L ↔ ∃ f ∈ List.range gi, Way (nxt g) f x)) := fun w1 vo vc hb hN => by
    have := look_any so no bo vo sc nc bc vc g (List.range gi) 29 38 #[] #[] (fun _ => true) (fun _ => false) w1 hok (fun i hi => hz.rows i (by rw [hok.head.next]; exact hi)) ((hV.below hA).below hb) hN (by simp; omega) (fun x hx => by have := List.mem_range.1 hx; omega) (anywhere_fn _ _ _) (nowhere_fn _ _ _)
    rw [hgi] at this
    refine this.mono fun e w' ⟨L, r, h1, h2, h3⟩ => ⟨L, r, h1, h2, h3.out.1, ?_⟩
    obtain ⟨p1, p2⟩ := h3.out.2
    rcases p2 with ⟨_, p3⟩ | ⟨i, _, _, p4⟩
    · exact look_reach p1 p3
    · simp at p4
  have HRe : Hid (∀ x, x < g.spots.length → ∀ b : Bool, (b = true ↔ ∃ f ∈ List.range gi, Way (nxt g) f x) → (reachL g).getD x false = b) := fun x hx b hb => by
    classical
    unfold reachL
    rw [reachB_at hx, hgi]
    show decide (∃ f ∈ List.range gi, Way (nxt g) f x) = b
    cases b with
    | true => exact decide_eq_true (hb.1 rfl)
    | false => exact decide_eq_false fun h => by simp at hb; exact hb _ (List.mem_range.1 h.choose_spec.1) h.choose_spec.2
  have HRl : Hid ((reachL g).length = g.spots.length) := reachB_length _ _ _
  rw [hgi] at hW0 HD hch ⊢
  have HHas : Hid (∀ x, (∃ f ∈ List.range gi, Way (nxt g) f x) = (∃ f ∈ List.range gi, Way (nxt g) f x)) := fun _ => rfl
  generalize reachL g = RL at *
  generalize Way (nxt g) = WY at *
  obtain ⟨lr, hlr⟩ : ∃ lr, lr = (List.range gi).length := ⟨_, rfl⟩
  rw [← hlr] at HFi HLo
  generalize g.next.length = nn at *
  generalize g.sets.length = bn at *
  generalize g.many = gm at *
  obtain ⟨n, hnn⟩ : ∃ n, n = g.spots.length := ⟨_, rfl⟩
  rw [← hnn] at hW0 HD hch HFi HLo HRe HRl hn hgn ⊢
  clear hV hz hc hok hgi hnn hlr
  have hS : ∀ w1, Below W0.heap.size W0 w1 → w1.cell? ⟨w.heap.size, 0, none⟩ = some (.slice so n sc) ∧ w1.cell? ⟨w.heap.size, 1, none⟩ = some (.int .i64 (gi : Int)) ∧ w1.cell? ⟨w.heap.size, 2, none⟩ = some (.slice no nn nc) ∧ w1.cell? ⟨w.heap.size, 3, none⟩ = some (.slice bo bn bc) ∧ w1.cell? ⟨w.heap.size, 4, none⟩ = some (.int .i64 gm) := fun w1 hb => (HD.out w1 hb).2
  have HW0 : Hid (W0 = w.alloc (.cells #[.slice so n sc, .int .i64 (gi : Int), .slice no nn nc, .slice bo bn bc, .int .i64 gm] 26)) := hW0
  rw [hW0] at hch
  clear hW0
  go_enter Try.func24, Try.ntmps24
  go_wp2_with (go_at_call 17; refine hch.mono ?_; rintro e w1 ⟨rfl, hb1⟩; rw [← HW0.out] at hb1; obtain ⟨a0, a1, a2, a3, a4⟩ := hS w1 hb1)
  have hfi := HFi.out w1.drew
  go_region_held3 (fun w' => w'.cell? ⟨w.heap.size, 0, none⟩ = some (.slice so n sc) ∧ w'.cell? ⟨w.heap.size, 1, none⟩ = some (.int .i64 (gi : Int)) ∧ w'.cell? ⟨w.heap.size, 2, none⟩ = some (.slice no nn nc) ∧ w'.cell? ⟨w.heap.size, 3, none⟩ = some (.slice bo bn bc) ∧ w'.cell? ⟨w.heap.size, 4, none⟩ = some (.int .i64 gm))
    (exact hS _ (by first | exact hb1.drew | exact hb1 | exact hb12 | exact hb13))
    (first | (go_at_call 28; refine hfi.mono ?_; rintro e w2 ⟨vo, vc, rfl, hb2, hN2⟩; have hb12 := hb1.trans ((undrewB hb2).mono hb1.size); have hlo := HLo.out w2 vo vc hb12 hN2) | (go_at_call 37; refine hlo.mono ?_; rintro e w3 ⟨L, r, rfl, hb3, HC⟩; have hb13 := hb12.trans (hb3.mono hb12.size)))
  obtain ⟨b0, b1, b2, b3, b4⟩ := hS w3 hb13
  have hmk := run_make_row' (P := Try.prog) 45 4 (.bool false) 1 Try.underlying45 infoBool rfl .i64 .i64 n (by omega) (by omega)
  have hrow0 := World.rowIs_made w3 (.bool false) n 4
  have HR0 : Hid ((w3.alloc (.cells (madeCells #[.bool false] n) 4)).rowIs w3.heap.size 4 n (fun j => .bool (if j < 0 then RL.getD j false else false))) := hrow0.congr fun j _ => by simp
  have HB0 : Hid (Below w3.heap.size w3 (w3.alloc (.cells (madeCells #[.bool false] n) 4))) := (Below.refl _ _).alloc (Nat.le_refl _) _
  have hbw3 := hA.trans (hb13.mono hA.size)
  clear hrow0 hS hfi hlo hN2 HLo HFi hch HD hb12 hb13 hb1 hb2 hb3 hA HW0
  go_wp2_with fail
  go_loopw [27] (fun i wr => ∃ k : Nat, k ≤ n ∧ i = .int .i64 k ∧ Hid (wr.rowIs w3.heap.size 4 n (fun j => .bool (if j < k then RL.getD j false else false))) ∧ Hid (Below w3.heap.size w3 wr)) (fun i _ => n - (intOf i).toNat)
  case atStart => exact ⟨0, Nat.zero_le _, rfl, HR0.out, HB0.out⟩
  case round =>
    obtain ⟨k, hk, rfl, HR, HB⟩ := hrel
    by_cases hlt : k < n
    · have hce := HR.out.cell hlt
      have hfz := HR.out.frozen k
      obtain ⟨D, hown, hcd⟩ := HC.out.1.kept (grown_below HB.out) (by simp)
      have hkk := HC.out.2 k
      have hhas := (hcd k).1
      have hk1 := keyG k (by omega)
      have HRk : Hid (RL.getD k false = decide (k ∈ keys L)) := HRe.out k hlt (decide (k ∈ keys L)) (by rw [← hkk]; simp)
      generalize decide (k ∈ keys L) = bb at *
      have HN : Hid ((wr.setCell ⟨w3.heap.size, k, none⟩ (.bool bb)).rowIs w3.heap.size 4 n (fun j => .bool (if j < k + 1 then RL.getD j false else false))) := (HR.out.set k (.bool bb)).congr fun j _ => by
        by_cases hj : j = k
        · subst hj; rw [if_pos rfl, if_pos (by omega), HRk.out]
        · rw [if_neg hj]
          by_cases hjk : j < k
          · rw [if_pos hjk, if_pos (by omega)]
          · rw [if_neg hjk, if_neg (by omega)]
      have HBn : Hid (Below w3.heap.size w3 (wr.setCell ⟨w3.heap.size, k, none⟩ (.bool bb))) := HB.out.setCell (Nat.le_refl _) _
      generalize (if k < k then RL.getD k false else false) = old at *
      generalize L.length = ql at *
      clear HR hcd hkk
      go_wp2_with (at_lookup; refine wpList_lookup_own_ok_int _ rfl _ _ 61 rfl 3 3 .i64 keyInt Try.underlying61 Try.underlying3 (zeroInt _) (w2.heap.size + 2) _ D rfl hown _ _ rfl hk1 ?_; intro c hat hwc; rw [hhas]; clear hat hwc)
      go_roundw
      case rel => exact ⟨k + 1, hlt, by go_num, HN, HBn⟩
      case measure => simp [intOf]; omega
    · obtain rfl : k = n := by omega
      have HI : Hid (BoolsV wr (.slice (some ⟨w3.heap.size, 0, none⟩) k k) RL) := by
        have h1 : wr.rowIs w3.heap.size 4 RL.length (fun j => .bool (RL.getD j false)) := by rw [HRl.out]; exact HR.out.congr fun j hj => by rw [if_pos hj]
        have := boolsV_of_row h1
        rwa [HRl.out] at this
      clear HR
      go_wp2_with fail
      go_ret2
      exact ⟨_, _, rfl, hbw3.trans (HB.out.mono hbw3.size), HI⟩
end Go.Proofs.Ytknneajaklcjdaa
