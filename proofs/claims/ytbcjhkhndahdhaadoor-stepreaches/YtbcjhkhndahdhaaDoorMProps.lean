/-
  The contracts of the program's Props, of the document's PropsFault, and of the laws' own terms.
-/
import Derived.Test.YtbcjhkhndahdhaaDoorMCheck2
import Derived.Test.YtbcjhkhndahdhaaDoorRefModel
import Derived.Test.YtbcjhkhndahdhaaDoorOpsOf
namespace Go.Proofs.YtbcjhkhndahdhaaDoor
open Go.ChangeShapes Go.WideShapes Go.ChangeAt Go.RowKit Go.Deep
open Terms Tm

set_option maxRecDepth 20000 in
theorem TermsV.shape {w : World} {v : Value} {ts : List (List (Int × Int))} (h : TermsV w v ts) : ∃ ao cap, v = .slice ao ts.length cap := by
  obtain ⟨ao, cap, h1, _⟩ := h
  exact ⟨ao, cap, h1⟩
set_option maxRecDepth 20000 in
theorem TermsV.at {w : World} {ao : Option Addr} {cap n : Nat} {ts : List (List (Int × Int))} (h : TermsV w (.slice ao n cap) ts) {i : Nat} (hi : i < ts.length) : ∃ b off, ao = some ⟨b, off, none⟩ ∧ b < w.heap.size ∧ ∃ u, w.cell? ⟨b, off + i, none⟩ = some u ∧ OpsV w u (ts.getD i []) := by
  obtain ⟨ao', cap', h1, h3⟩ := h
  injection h1 with e1 e2 e3
  subst e1
  obtain ⟨b, off, e, hb, hh⟩ := h3 (by intro h; subst h; simp at hi)
  exact ⟨b, off, e, hb, hh i hi⟩

end Go.Proofs.YtbcjhkhndahdhaaDoor
