/-
  What the keeping laws on moments share.
-/
import Derived.Test.YtbnhjbjlcnmjbaaDoorKeepHolds
namespace Go.Proofs.YtbnhjbjlcnmjbaaDoor
open Go.ChangeShapes Go.WideShapes Go.ChangeAt Go.RowKit Go.Deep Go.Joins
open Terms

theorem RowT.later {W W' : World} {rb m : Nat} {h : Nat → Bool} (r : RowT W rb m h) (hb : Below W.heap.size W W') : RowT W' rb m h := ⟨Nat.lt_of_lt_of_le r.1 hb.size, fun j hj => (hb.cell (p := ⟨rb, j, none⟩) r.1).trans (r.2 j hj)⟩
theorem KCtx.moments {w : World} {wb : Nat} {sv lv : Value} {ss ll : List (List Bool)} {W : World} (k : KCtx w wb sv lv ss ll W) {v : Value} {m : Nat} {t : List (Int × Int)} {T : Tm} (hV : OpsV W v t) (hF : FOk m t T) (hl : t.length ≤ 60) (hm : m ≤ 6) {nm : Nat} (hn : nm = ss.length + ll.length) :
    Calls Tryd.prog 9 #[v, .agg #[sv, lv], .int .i64 3] W fun e w' => ∃ rb, e = .returned (.tuple #[.slice (some ⟨rb, 0, none⟩) nm nm, .int .i64 0]) ∧ Below W.heap.size W w' ∧ Hid (RowT w' rb nm (T.hb (sig (ss ++ ll) ss.length))) := by
  rw [hn]
  exact moments_ok v sv lv t ss ll 3 T W k.pos k.tab hV k.s k.l (mocode_ok hF hl hm k.ok.code) hF.wf hF.ops
end Go.Proofs.YtbnhjbjlcnmjbaaDoor
