/-
  One changed byte changes the sum. Plain mathematics.
-/
import Derived.Test.YtjnobdpjohbdnaaTKeep
import Derived.Laws.BitsAllLaws
namespace Go.Proofs.Ytjnobdpjohbdnaa
open Go.ChangeShapes Go.WideShapes Go.ChangeAt Go.RowKit Go.Deep

theorem step_inj {s t : Nat} (b : UInt8) (hs : s < 2147483629) (ht : t < 2147483629) (h : sumStep s b = sumStep t b) : s = t := by
  unfold sumStep at h
  generalize b.toNat = x at h
  omega
theorem step_byte {s : Nat} {b c : UInt8} (h : sumStep s b = sumStep s c) : b = c := by
  unfold sumStep at h
  have hb := UInt8.toNat_lt b
  have hc := UInt8.toNat_lt c
  refine u8_ext ?_
  generalize b.toNat = x at *
  generalize c.toNat = y at *
  generalize s * 257 = z at *
  omega
theorem fold_inj : ∀ (l : List UInt8) {s t : Nat}, s < 2147483629 → t < 2147483629 → l.foldl sumStep s = l.foldl sumStep t → s = t
  | [], _, _, _, _, h => h
  | b :: l, _, _, hs, ht, h => step_inj b hs ht (fold_inj l (sumStep_lt _ _) (sumStep_lt _ _) h)
theorem sum_set {l : List UInt8} {i : Nat} {c : UInt8} (hi : i < l.length) (h : sumL l = sumL (l.set i c)) : c = l.getD i 0 := by
  have e1 : l = l.take i ++ l.getD i 0 :: l.drop (i + 1) := by
    have : l.getD i 0 = l[i] := by simp [List.getD_eq_getElem?_getD, hi]
    rw [this, List.getElem_cons_drop, List.take_append_drop]
  have e2 : l.set i c = l.take i ++ c :: l.drop (i + 1) := List.set_eq_take_append_cons_drop.trans (if_pos hi)
  unfold sumL at h
  rw [e2] at h
  conv at h => lhs; rw [e1]
  rw [List.foldl_append, List.foldl_append, List.foldl_cons, List.foldl_cons] at h
  exact (step_byte (fold_inj _ (sumStep_lt _ _) (sumStep_lt _ _) h)).symm
theorem xor_ne {a c : Nat} (h : a ^^^ c = a) : c = 0 := by
  have : a ^^^ (a ^^^ c) = a ^^^ a := by rw [h]
  rwa [← Nat.xor_assoc, Nat.xor_self, Nat.zero_xor] at this
/-- the byte that SumOne lays. -/
def xb (b : UInt8) (c : Nat) : UInt8 := UInt8.ofNat (b.toNat ^^^ c)
theorem xb_lt (b : UInt8) {c : Nat} (hc : c < 256) : b.toNat ^^^ c < 256 := Nat.xor_lt_two_pow (n := 8) (UInt8.toNat_lt b) hc
theorem xb_toNat (b : UInt8) {c : Nat} (hc : c < 256) : (xb b c).toNat = b.toNat ^^^ c := by
  unfold xb
  rw [UInt8.toNat_ofNat']
  exact Nat.mod_eq_of_lt (xb_lt b hc)
theorem xb_ne (b : UInt8) {c : Nat} (hc : c < 256) (h0 : 0 < c) : xb b c ≠ b := fun h => by
  have := congrArg UInt8.toNat h
  rw [xb_toNat b hc] at this
  have := xor_ne this
  omega
theorem bvals_set (l : List UInt8) (i : Nat) (c : UInt8) : bvals (l.set i c) = (bvals l).set i (.int .u8 (c.toNat : Int)) := by simp [bvals, List.map_set]
theorem bytesV_set {w : World} {g n cap : Nat} {l : List UInt8} {i : Nat} {c : UInt8} (h : BytesV w (.slice (some ⟨g, 0, none⟩) n cap) l) (hi : i < l.length) : BytesV (w.setCell ⟨g, i, none⟩ (.int .u8 (c.toNat : Int))) (.slice (some ⟨g, 0, none⟩) n cap) (l.set i c) := by
  obtain ⟨ao, cap', e1, ⟨h0, _⟩, hat⟩ := h
  injection e1 with e1 e2 e3
  subst e1 e3
  obtain ⟨b, off, e, hlt, hba⟩ := hat (by intro h; subst h; simp at hi)
  injection e with e
  injection e with e4 e5
  subst e4 e5
  refine ⟨_, _, by rw [List.length_set, ← e2], ⟨by rw [List.length_set]; omega, fun h => by simp at h⟩, fun _ => ⟨g, 0, rfl, by simpa using hlt, fun j hj => ?_⟩⟩
  rw [List.length_set] at hj
  have hc := hba j hj
  have hci := hba i hi
  rw [Nat.zero_add] at hc hci ⊢
  by_cases e : j = i
  · subst e
    simp [go_sem, hci, List.getD_eq_getElem?_getD, hi]
  · have : (w.setCell ⟨g, i, none⟩ (.int .u8 (c.toNat : Int))).cell? ⟨g, j, none⟩ = w.cell? ⟨g, j, none⟩ := by simp [go_sem]
    rw [this, hc]
    simp [List.getD_eq_getElem?_getD, List.getElem?_set_ne (Ne.symm e)]
end Go.Proofs.Ytjnobdpjohbdnaa
