/-
  A graph that the keeping laws grew: what the calls answer of it.
-/
import Derived.Test.YtdmclgbmdhhdiaaKGraph
import Derived.Test.YtdmclgbmdhhdiaaKReaches
import Derived.Test.YtdmclgbmdhhdiaaSReach
namespace Go.Proofs.Ytdmclgbmdhhdiaa
open Go.ChangeShapes Go.WideShapes Go.ChangeAt Go.RowKit Go.Deep
open Terms

theorem kgraph_rows {w : World} {g : Gr} {so no bo : Option Addr} {sc nc bc : Nat} (h : GOk g) (hV : GraphV w (.slice so g.spots.length sc) (.slice no g.next.length nc) (.slice bo g.sets.length bc) g) : ∀ p, p < g.spots.length → ∃ b off, no = some ⟨b, off, none⟩ ∧ b < w.heap.size ∧ ∃ uo uc, w.cell? ⟨b, off + p, none⟩ = some (.slice uo (nxt g p).length uc) ∧ NatsV w (.slice uo (nxt g p).length uc) (nxt g p) := fun p hp => by
  obtain ⟨b, off, e, hb, uo, uc, hc, hi⟩ := hV.next.row (i := p) (by rw [h.head.next]; exact hp)
  exact ⟨b, off, e, hb, uo, uc, by rw [nxt_length]; exact hc, row_nats h hp hi⟩
/-- A GROWN GRAPH, as it lies. -/
structure KGot (w : World) (so : Option Addr) (sc : Nat) (no : Option Addr) (nc : Nat) (bo : Option Addr) (bc n gi mm : Nat) (g : Gr) : Prop where
  v : GraphV w (.slice so n sc) (.slice no n nc) (.slice bo n bc) g
  ok : GOk g
  len : g.spots.length = n
  init : g.init = gi
  many : g.many = mm
  small : n ≤ 20
  first : gi ≤ n
  rows : ∀ i, i < n → (g.next.getD i []).length ≤ 6
theorem KGot.later {w w' : World} {so no bo : Option Addr} {sc nc bc n gi mm : Nat} {g : Gr} (h : KGot w so sc no nc bo bc n gi mm g) (hb : Below w.heap.size w w') : KGot w' so sc no nc bo bc n gi mm g := ⟨h.v.below hb, h.ok, h.len, h.init, h.many, h.small, h.first, h.rows⟩
theorem KGot.le {w : World} {so no bo : Option Addr} {sc nc bc n gi mm : Nat} {g : Gr} (h : KGot w so sc no nc bo bc n gi mm g) : GrLe g := by
  have hn := h.len
  have hs := h.small
  exact ⟨by omega, by rw [h.ok.head.next]; omega, by rw [h.ok.head.sets]; omega, fun i hi => by have := h.rows i (by rw [h.ok.head.next] at hi; omega); omega⟩
theorem KGot.code {w : World} {so no bo : Option Addr} {sc nc bc n gi mm : Nat} {g : Gr} (h : KGot w so sc no nc bo bc n gi mm g) : gcode g = 0 := gcode_ok h.ok.head h.ok.row
theorem graphFn_got (no bo : Option Addr) (nc bc : Nat) (ls : List (List Int)) (bs : List Int) (wi wm : Int) (w : World) (hL : ListsR w (.slice no ls.length nc) ls) (hlz : ls.length ≤ 140737488355328) (hS : IntsR w (.slice bo bs.length bc) bs) (hwi : I64 wi) (hwm : I64 wm) :
    Calls Try.prog 4 #[.agg #[.slice no ls.length nc, .slice bo bs.length bc, .int .i64 wi, .int .i64 wm]] w fun e w' => ∃ so sc no' nc' bo' bc' n gi mm g, e = .returned (.agg #[.slice so n sc, .int .i64 (gi : Nat), .slice no' n nc', .slice bo' n bc', .int .i64 (mm : Nat)]) ∧ Below w.heap.size w w' ∧ n = min ls.length 20 ∧ Hid (KGot w' so sc no' nc' bo' bc' n gi mm g) :=
  (graphFn_any no bo nc bc ls bs wi wm w hL hlz hS hwi hwm).mono fun e w' ⟨so, sc, no', nc', bo', bc', g, he, hb, HG⟩ => by
    obtain ⟨hV, hok, hn, hr⟩ := HG.out
    have h1 := hok.head.next
    have h2 := hok.head.sets
    have h3 := hok.head.init0
    have h4 := hok.head.init1
    have h5 := hok.head.many0
    rw [h1, h2] at hV he
    refine ⟨so, sc, no', nc', bo', bc', g.spots.length, g.init.toNat, g.many.toNat, g, ?_, hb, hn, hV, hok, rfl, by omega, by omega, by omega, by omega, hr⟩
    rw [he, show ((g.init.toNat : Nat) : Int) = g.init by omega, show ((g.many.toNat : Nat) : Int) = g.many by omega]
theorem KGot.reached {w : World} {so no bo : Option Addr} {sc nc bc n gi mm : Nat} {g : Gr} (h : KGot w so sc no nc bo bc n gi mm g) :
    Calls Try.prog 7 #[.agg #[.slice so n sc, .int .i64 (gi : Int), .slice no n nc, .slice bo n bc, .int .i64 (mm : Int)]] w fun e w' => ∃ vo vc, e = .returned (.tuple #[.slice vo n vc, .int .i64 0]) ∧ Below w.heap.size w w' ∧ Hid (BoolsV w' (.slice vo n vc) (reachB (nxt g) (List.range gi) n)) := by
  have h1 := h.ok.head.next
  have h2 := h.ok.head.sets
  have h3 := h.len
  have hh := sreached_ok so no bo sc nc bc g w h.le (by rw [h1, h2, h3]; exact h.v) h.code
  have e1 : reachL g = reachB (nxt g) (List.range gi) n := by unfold reachL; rw [h.len, h.init]; simp
  rw [e1, h1, h2, h3, h.init, h.many] at hh
  exact hh
end Go.Proofs.Ytdmclgbmdhhdiaa
