/-
  The contract of scc.Parts.
-/
import Derived.Test.YtdmclgbmdhhdiaaTjParts
import Derived.Test.YtdmclgbmdhhdiaaSReach
namespace Go.Proofs.Ytdmclgbmdhhdiaa
open Go.ChangeShapes Go.WideShapes Go.ChangeAt Go.RowKit Go.Deep
open Terms

theorem graph_rows {w : World} {g : Gr} {so no bo : Option Addr} {sc nc bc : Nat} (h : GOk g) (hV : GraphV w (.slice so g.spots.length sc) (.slice no g.next.length nc) (.slice bo g.sets.length bc) g) : NextRows w no g.spots.length (nxt g) := fun p hp => by
  obtain ⟨b, off, e, hb, uo, uc, hc, hi⟩ := hV.next.row (i := p) (by rw [h.head.next]; exact hp)
  exact ⟨b, off, e, hb, uo, uc, by rw [nxt_length]; exact hc, row_nats h hp hi⟩
/-- parts that are told rightly. -/
def PartsOk (g : Gr) (pt : Nat → Int) : Prop := ∀ x, x < g.spots.length → PartIs (nxt g) x (pt x)
theorem partsOf_gr (so no bo : Option Addr) (sc nc bc : Nat) (g : Gr) (w : World) (hz : GrLe g) (hV : GraphV w (.slice so g.spots.length sc) (.slice no g.next.length nc) (.slice bo g.sets.length bc) g) (hok : GOk g) :
    Calls Try.prog 9 #[.agg #[.slice so g.spots.length sc, .int .i64 g.init, .slice no g.next.length nc, .slice bo g.sets.length bc, .int .i64 g.many]] w fun e w' => ∃ B, e = .returned (.slice (some ⟨B, 0, none⟩) g.spots.length g.spots.length) ∧ Below w.heap.size w w' ∧ Hid (∃ pt, w.heap.size ≤ B ∧ w'.rowIs B 3 g.spots.length (intRow pt) ∧ PartsOk g pt) := by
  have hn := hok.head.next
  have h := partsOf_any so no bo sc nc g.sets.length bc g.init g.many g.spots.length (nxt g) w hok.head.n (fun i hi k hk => nxt_lt hok hi hk) (fun i hi => by rw [nxt_length]; exact hz.rows i (by rw [hn]; exact hi)) (graph_rows hok hV)
  rw [hn]
  exact h

end Go.Proofs.Ytdmclgbmdhhdiaa
