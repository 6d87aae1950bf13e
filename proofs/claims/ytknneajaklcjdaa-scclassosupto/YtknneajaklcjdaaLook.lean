/-
  The contract of scc.look.
-/
import Derived.Test.YtknneajaklcjdaaLook0
import Derived.Deep.RegionLaw
namespace Go.Proofs.Ytknneajaklcjdaa
open Go.ChangeShapes Go.WideShapes Go.ChangeAt Go.RowKit Go.Deep Go.Maps
open Terms

/-- what a look tells. -/
def LookPost (g : Gr) (ins want : Nat → Bool) (bs : List Nat) (L : Met) (r : Int) : Prop := LOk g.spots.length ins (nxt g) bs L ∧ ((r = -1 ∧ Through ins want (nxt g) bs L L.length) ∨ ∃ i, i < L.length ∧ r = ((L.getD i (0, 0)).1 : Int) ∧ want (L.getD i (0, 0)).1 = true)
theorem nvals_at (L : Met) {i : Nat} (hi : i < L.length) : (nvals (keys L))[i]? = some (.int .i64 ((L.getD i (0, 0)).1 : Int)) := by
  simp [nvals, keys, List.getD_eq_getElem?_getD, hi]

set_option maxHeartbeats 3200000 in
set_option maxRecDepth 20000 in
/-- THE CONTRACT OF look. -/
theorem look_any (so no bo po : Option Addr) (sc nc bc pc : Nat) (g : Gr) (bs : List Nat) (fi fw : FuncId) (ci cw : Array Value) (ins want : Nat → Bool) (w : World) (hg : GOk g) (hzn : ∀ i, i < g.spots.length → (g.next.getD i []).length ≤ 140737488355328)
    (hV : GraphV w (.slice so g.spots.length sc) (.slice no g.next.length nc) (.slice bo g.sets.length bc) g) (hP : NatsV w (.slice po bs.length pc) bs) (hbl : bs.length ≤ 140737488355328) (hbs : ∀ x ∈ bs, x < g.spots.length)
    (hI : FnB w w.heap.size g.spots.length (.func (.func fi) #[] ci) ins) (hW : FnB w w.heap.size g.spots.length (.func (.func fw) #[] cw) want) :
    Calls Try.prog 37 #[.agg #[.slice so g.spots.length sc, .int .i64 g.init, .slice no g.next.length nc, .slice bo g.sets.length bc, .int .i64 g.many], .slice po bs.length pc, .func (.func fi) #[] ci, .func (.func fw) #[] cw] w fun e w' => ∃ L r, e = .returned (.tuple #[.int .i64 r, .map (some (w.heap.size + 2))]) ∧ Below w.heap.size w w' ∧ Hid (CameIs w' (w.heap.size + 2) L ∧ LookPost g ins want bs L r) := by
  have hn := hg.head.n
  have hnl := hg.head.next
  have HMeet : Hid (∀ (po : Option Addr) (pc : Nat) (ps : List Nat) (f : Int) (w1 : World) (L : Met) (v : Value), (∀ x ∈ ps, x < g.spots.length) → -1 ≤ f ∧ f ≤ 20000 → ps.length ≤ 140737488355328 → NatsV w (.slice po ps.length pc) ps → LOk g.spots.length ins (nxt g) bs L → ((f = -1 ∧ ∀ x ∈ ps, x ∈ bs) ∨ ∃ j, j < L.length ∧ f = ((L.getD j (0, 0)).1 : Int) ∧ ∀ x ∈ ps, x ∈ nxt g (L.getD j (0, 0)).1) → LookSt w w1 w.heap.size (.slice no g.next.length nc) (.func (.func fi) #[] ci) L v →
      Calls Try.prog 43 #[.slice po ps.length pc, .int .i64 f, .pointer (some ⟨w.heap.size + 3, 0, none⟩), .pointer (some ⟨w.heap.size + 1, 0, none⟩), .pointer (some ⟨w.heap.size + 4, 0, none⟩)] w1 fun e w' => e = .returned (.tuple #[]) ∧ ∃ v', LookSt w w' w.heap.size (.slice no g.next.length nc) (.func (.func fi) #[] ci) (meetTo ins f L ps ps.length) v' ∧ LOk g.spots.length ins (nxt g) bs (meetTo ins f L ps ps.length)) := fun po pc ps f w1 L v h1 h2 h3 h4 h5 h6 h7 =>
    (meet_any po pc ps f w w1 g.spots.length _ fi ci ins L v hn h1 h2 h3 h4 hI (fun k hk => (meetTo_ok h5 h1 h6 k hk).length) h7).mono fun e w' ⟨e1, v', e2⟩ => ⟨e1, v', e2, meetTo_ok h5 h1 h6 _ (Nat.le_refl _)⟩
  have HV : Hid (GraphV w (.slice so g.spots.length sc) (.slice no g.next.length nc) (.slice bo g.sets.length bc) g) := hV
  have HRow : Hid (∀ p, p < g.spots.length → ∃ b off, no = some ⟨b, off, none⟩ ∧ b < w.heap.size ∧ ∃ uo uc, w.cell? ⟨b, off + p, none⟩ = some (.slice uo (nxt g p).length uc) ∧ NatsV w (.slice uo (nxt g p).length uc) (nxt g p) ∧ (nxt g p).length ≤ 140737488355328 ∧ ∀ x ∈ nxt g p, x < g.spots.length) := fun p hp => by
    obtain ⟨b, off, e, hb, uo, uc, h1, h2⟩ := hV.next.row (i := p) (by rw [hnl]; exact hp)
    have h3 := hzn p hp
    refine ⟨b, off, e, hb, uo, uc, by rw [nxt_length]; exact h1, row_nats hg hp h2, by rw [nxt_length]; exact h3, fun x hx => nxt_lt hg hp hx⟩
  have HBs : Hid (∀ x ∈ bs, x < g.spots.length) := hbs
  have HP : Hid (NatsV w (.slice po bs.length pc) bs) := hP
  obtain ⟨fw', cw', e1, hen, hwn⟩ := hW
  injection e1 with e1 e2 e3
  injection e1 with e1
  subst e1 e3
  clear e2
  have HWn : Hid (∀ w', Below w.heap.size w w' → ∀ p : Nat, p < g.spots.length → Calls Try.prog fw (#[.int .i64 (p : Int)] ++ cw) w' fun e w2 => e = .returned (.bool (want p)) ∧ Below w'.heap.size w' w2) := hwn
  have HPost : Hid (∀ L r, LOk g.spots.length ins (nxt g) bs L → ((r = -1 ∧ Through ins want (nxt g) bs L L.length) ∨ ∃ i, i < L.length ∧ r = ((L.getD i (0, 0)).1 : Int) ∧ want (L.getD i (0, 0)).1 = true) → LookPost g ins want bs L r) := fun L r h1 h2 => ⟨h1, h2⟩
  have HTh0 : Hid (∀ f, Through ins want (nxt g) bs (meetTo ins f [] bs bs.length) 0) := fun f => ⟨fun x hx hy => by
      obtain ⟨k, hk, rfl⟩ := List.getElem_of_mem hx
      have := meetTo_has (ins := ins) (f := f) (L := []) (Nat.le_refl bs.length) k hk
      rw [List.getD_eq_getElem?_getD, List.getElem?_eq_getElem hk] at this
      exact this hy, fun j hj => by omega, fun j hj => by omega⟩
  generalize LookPost g ins want bs = LP at *
  generalize nxt g = nx at *
  rw [hnl] at HMeet ⊢
  generalize g.sets.length = bn at *
  generalize g.spots.length = n at *
  generalize g.init = gi at *
  generalize g.many = gm at *
  clear hV hg hzn hnl hbs hP hI hwn HV
  have HS1 : Hid (LookSt w (((((w.alloc (.cells #[.slice so n sc, .int .i64 gi, .slice no n nc, .slice bo bn bc, .int .i64 gm] 26)).alloc (.cells #[.func (.func fi) #[] ci] 52)).alloc (.map #[] 0)).alloc (.cells #[.map (some (w.heap.size + 1 + 1))] 61)).alloc (.cells #[.slice none 0 0] 24)) w.heap.size (.slice no n nc) (.func (.func fi) #[] ci) [] (.slice none 0 0)) := by
    refine ⟨?_, by simp, by simp [go_sem], by simp [go_sem], by simp [go_sem], ?_, by simp [go_sem], by simp [go_sem], World.ownsRow_nil _ _ _ _⟩
    · exact (((((Below.refl _ _).alloc (Nat.le_refl _) _).alloc (by simp) _).alloc (by simp; omega) _).alloc (by simp; omega) _).alloc (by simp; omega) _
    · have h0 := World.ownsMap_made ((w.alloc (.cells #[.slice so n sc, .int .i64 gi, .slice no n nc, .slice bo bn bc, .int .i64 gm] 26)).alloc (.cells #[.func (.func fi) #[] ci] 52)) Try.prog 3 (plainElem (H := Unit) Try.prog 3)
      have h1 := (h0.kept (grown_below ((Below.refl _ _).alloc (Nat.le_refl _) (.cells #[.map (some (w.heap.size + 1 + 1))] 61))) (by simp)).kept (grown_below ((Below.refl _ _).alloc (Nat.le_refl _) (.cells #[.slice none 0 0] 24))) (by simp)
      exact ⟨_, by simpa using h1, fun x => ⟨by simp [Maps.has, keys], fun h => by simp [keys] at h⟩⟩
  have hme := HMeet.out po pc bs (-1) _ [] _ HBs.out (by omega) hbl HP.out (LOk.nil _ _ _ _) (.inl ⟨rfl, fun x hx => hx⟩) HS1.out
  have hmm := @run_makeMap Try.prog
  have hmf : ∀ (fn : Fn) (first cap : Array Value) (w : World), (Instr.makeFunc fn first cap).run Try.prog w = .ok (.func fn first cap) w := fun _ _ _ _ => rfl
  go_enter Try.func37, Try.ntmps37
  go_wp2_with (go_at_call 43; refine hme.mono ?_; rintro e w1 ⟨rfl, v1, hst1, hok1⟩)
  have HTh := HTh0.out (-1)
  generalize meetTo ins (-1) [] bs bs.length = L1 at *
  have HI : Hid (∃ L v, 0 ≤ L.length ∧ LookSt w w1 w.heap.size (.slice no n nc) (.func (.func fi) #[] ci) L v ∧ LOk n ins nx bs L ∧ Through ins want nx bs L 0) := ⟨L1, v1, Nat.zero_le _, hst1, hok1, HTh⟩
  clear hst1 hok1 HTh HTh0 hme HS1 hmm hmf HP HBs
  go_loopw [13] (fun i wr => ∃ k : Nat, k ≤ n ∧ i = .int .i64 k ∧ Hid (∃ L v, k ≤ L.length ∧ LookSt w wr w.heap.size (.slice no n nc) (.func (.func fi) #[] ci) L v ∧ LOk n ins nx bs L ∧ Through ins want nx bs L k)) (fun i _ => n - (intOf i).toNat)
  case atStart => exact ⟨0, Nat.zero_le _, rfl, HI.out⟩
  case round =>
    obtain ⟨k, hk, rfl, HK⟩ := hrel
    obtain ⟨L, v, hkL, hst, hok, hth⟩ := HK.out
    obtain ⟨lo, lc, rfl⟩ := owns_slice hst.ow
    have hln : wr.cell? ⟨w.heap.size + 1 + 1 + 1 + 1, 0, none⟩ = some (.slice lo L.length lc) := hst.ln
    have hcm : wr.cell? ⟨w.heap.size + 1 + 1 + 1, 0, none⟩ = some (.map (some (w.heap.size + 1 + 1))) := hst.cm
    have hgn := hst.gn
    have hLn := hok.length
    by_cases hlt : k < L.length
    · obtain ⟨lb, hlo⟩ : ∃ lb, lo = some ⟨lb, 0, none⟩ := by
        rcases hst.ow.2 with ⟨e, h0⟩ | ⟨lb, cap, cur, e, _⟩
        · omega
        · injection e with e1 _ _; exact ⟨lb, e1⟩
      subst hlo
      have hcl : wr.cell? ⟨lb, k, none⟩ = some (.int .i64 ((L.getD k (0, 0)).1 : Int)) := by
        rw [hst.ow.cellAt k (by omega)]
        exact nvals_at L hlt
      have hpn : (L.getD k (0, 0)).1 < n := hok.lt _ (key_at hlt)
      have hwa := HWn.out wr hst.below (L.getD k (0, 0)).1 hpn
      have HLa : Hid (∀ w4, Below wr.heap.size wr w4 → LookSt w w4 w.heap.size (.slice no n nc) (.func (.func fi) #[] ci) L (.slice (some ⟨lb, 0, none⟩) L.length lc)) := fun w4 hb => hst.later hb
      have hlbs : lb < wr.heap.size := World.block_lt_of_cell? wr _ hcl
      cases hwt : want (L.getD k (0, 0)).1 with
      | true =>
        rw [hwt] at hwa
        have HP2 : Hid (LP L ((L.getD k (0, 0)).1 : Int)) := HPost.out L _ hok (.inr ⟨k, hlt, rfl, hwt⟩)
        generalize (L.getD k (0, 0)).1 = p at *
        obtain ⟨q, hq⟩ : ∃ q, q = L.length := ⟨_, rfl⟩
        rw [← hq] at hlt hln hLn HLa
        clear hst hok hth HK hwt hq hkL
        go_wp2_with ((refine hwa.mono ?_; rintro e w4 ⟨rfl, hb4⟩; have hst4 := HLa.out w4 hb4; have hln4 : w4.cell? ⟨w.heap.size + 1 + 1 + 1 + 1, 0, none⟩ = some (.slice (some ⟨lb, 0, none⟩) q lc) := hst4.ln; have hcm4 : w4.cell? ⟨w.heap.size + 1 + 1 + 1, 0, none⟩ = some (.map (some (w.heap.size + 1 + 1))) := hst4.cm; have hcl4 := (hb4.cell (p := ⟨lb, k, none⟩) hlbs).trans hcl; have hbw4 := hst4.below; have HM4 : Hid (CameIs w4 (w.heap.size + 2) L) := hst4.mp; clear hst4))
        go_region
        go_wp2_with fail
        go_ret2
        exact ⟨L, (p : Int), rfl, by first | exact hbw4.drew | exact hbw4, HM4.out, HP2.out⟩
      | false =>
        rw [hwt] at hwa
        obtain ⟨nb, noff, rfl, hnb, uo, uc, hcu0, hnat, hnl, hnlt⟩ := HRow.out (L.getD k (0, 0)).1 hpn
        have HTh : Hid (∀ f, Through ins want nx bs (meetTo ins f L (nx (L.getD k (0, 0)).1) (nx (L.getD k (0, 0)).1).length) (k + 1)) := fun f => hth.step hlt hwt
        have HLe : Hid (∀ f, k + 1 ≤ (meetTo ins f L (nx (L.getD k (0, 0)).1) (nx (L.getD k (0, 0)).1).length).length) := fun f => Nat.le_trans hlt (meetTo_grown _ _ _ _ _).length
        have hme := fun w4 hb => HMeet.out uo uc (nx (L.getD k (0, 0)).1) ((L.getD k (0, 0)).1 : Int) w4 L _ hnlt (by omega) hnl hnat hok (.inr ⟨k, hlt, rfl, fun x hx => hx⟩) (HLa.out w4 hb)
        generalize (L.getD k (0, 0)).1 = p at *
        obtain ⟨q, hq⟩ : ∃ q, q = L.length := ⟨_, rfl⟩
        have HQ : Hid (q = L.length) := hq
        rw [← hq] at hlt hln hLn HLa
        have HME : Hid (∀ w4, Below wr.heap.size wr w4 → Calls Try.prog 43 #[.slice uo (nx p).length uc, .int .i64 (p : Int), .pointer (some ⟨w.heap.size + 1 + 1 + 1, 0, none⟩), .pointer (some ⟨w.heap.size + 1, 0, none⟩), .pointer (some ⟨w.heap.size + 1 + 1 + 1 + 1, 0, none⟩)] w4 fun e w' => e = .returned (.tuple #[]) ∧ ∃ v', LookSt w w' w.heap.size (.slice (some ⟨nb, noff, none⟩) n nc) (.func (.func fi) #[] ci) (meetTo ins (p : Int) L (nx p) (nx p).length) v' ∧ LOk n ins nx bs (meetTo ins (p : Int) L (nx p) (nx p).length)) := hme
        clear hst hok hth HK hwt hq hkL hme hnat hnlt HRow
        have HN := HTh.out (p : Int)
        have HN2 := HLe.out (p : Int)
        generalize meetTo ins (p : Int) L (nx p) (nx p).length = L2 at *
        generalize (nx p).length = rn at *
        have hS : ∀ w', Below wr.heap.size wr w' → w'.cell? ⟨w.heap.size, 2, none⟩ = some (.slice (some ⟨nb, noff, none⟩) n nc) ∧ w'.cell? ⟨w.heap.size + 1 + 1 + 1 + 1, 0, none⟩ = some (.slice (some ⟨lb, 0, none⟩) q lc) ∧ w'.cell? ⟨lb, k, none⟩ = some (.int .i64 (p : Int)) ∧ w'.cell? ⟨nb, noff + p, none⟩ = some (.slice uo rn uc) := fun w' hb => by
          have hst4 := HLa.out w' hb
          exact ⟨hst4.gn, hst4.ln, (hb.cell (p := ⟨lb, k, none⟩) hlbs).trans hcl, (hst4.below.cell (p := ⟨nb, noff + p, none⟩) hnb).trans hcu0⟩
        go_wp2_with ((refine hwa.mono ?_; rintro e w4 ⟨rfl, hb4⟩; obtain ⟨a1, a2, a3, a4⟩ := hS w4 hb4))
        have hm4 := HME.out w4.drew hb4.drew
        have HGo : Hid (∀ w5 v5, LookSt w w5 w.heap.size (.slice (some ⟨nb, noff, none⟩) n nc) (.func (.func fi) #[] ci) L2 v5 → LOk n ins nx bs L2 → ∃ L v, k + 1 ≤ L.length ∧ LookSt w w5 w.heap.size (.slice (some ⟨nb, noff, none⟩) n nc) (.func (.func fi) #[] ci) L v ∧ LOk n ins nx bs L ∧ Through ins want nx bs L (k + 1)) := fun w5 v5 h1 h2 => ⟨L2, v5, HN2, h1, h2, HN⟩
        clear HN HN2 HTh HLe HME HMeet HLa HWn HPost hS hwa hcl hcu0 hln hcm hgn
        have hkn : k < n := by omega
        go_region_with ((go_at_call 43; refine hm4.mono ?_; rintro e w5 ⟨rfl, v5, hst5, hok5⟩; have HK5 : Hid (∃ L v, k + 1 ≤ L.length ∧ LookSt w w5 w.heap.size (.slice (some ⟨nb, noff, none⟩) n nc) (.func (.func fi) #[] ci) L v ∧ LOk n ins nx bs L ∧ Through ins want nx bs L (k + 1)) := (HGo.out w5 v5 hst5 hok5); clear hst5 hok5))
        all_goals
          go_wp2_with fail
          go_roundw
          case rel => exact ⟨k + 1, hkn, by go_num, HK5⟩
          case measure => simp [intOf]; omega
    · obtain rfl : k = L.length := by omega
      have HF : Hid (CameIs wr (w.heap.size + 2) L ∧ LP L (-1)) := ⟨hst.mp, HPost.out L (-1) hok (.inl ⟨rfl, hth⟩)⟩
      have hbw := hst.below
      generalize L.length = q at *
      clear hst hok hth HK
      go_wp2_with fail
      go_region
      go_wp2_with fail
      go_ret2
      exact ⟨L, -1, rfl, by first | exact hbw.drew | exact hbw, HF.out⟩
end Go.Proofs.Ytknneajaklcjdaa
