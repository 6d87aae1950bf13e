/-
  Joined out of LogicTru2, LogicTr3, PBegin, KTask, TtNot, BaM, BaWalk, in their order: a claim bears at most so many files.
-/
import Derived.Test.YtcddocjpdlacaaaDoorLateB
import Derived.Test.YtcddocjpdlacaaaDoorLateA
import Derived.Test.YtcddocjpdlacaaaDoorMFirst
import Derived.Test.YtcddocjpdlacaaaDoorKeepDesign
/-
  The contract of logic's method truths.
-/
namespace Go.Proofs.YtcddocjpdlacaaaDoor
open Go.ChangeShapes Go.WideShapes Go.ChangeAt Go.RowKit Go.Deep Go.Shelf
open Terms

attribute [local go_sem] Oper.semAt_some
/-- the temporaries of a round. -/
def trAct (p3 p4 p8 p11 p12 r0 r1 r2 r5 r6 r7 r9 r10 r13 r14 r15 r16 r17 r18 r19 r20 r21 r22 r23 r24 r25 r26 r27 r28 r29 r30 r31 r32 r33 r34 r35 r36 r37 r38 r39 r40 r41 r42 r43 r44 r45 r46 r47 r48 r49 r50 r51 r52 r53 r54 r55 r56 r57 r58 r59 r60 r61 r62 r63 r64 r65 r66 r67 r68 r69 r70 : Value) : Act := { tmps := #[r0, r1, r2, p3, p4, r5, r6, r7, p8, r9, r10, p11, p12, r13, r14, r15, r16, r17, r18, r19, r20, r21, r22, r23, r24, r25, r26, r27, r28, r29, r30, r31, r32, r33, r34, r35, r36, r37, r38, r39, r40, r41, r42, r43, r44, r45, r46, r47, r48, r49, r50, r51, r52, r53, r54, r55, r56, r57, r58, r59, r60, r61, r62, r63, r64, r65, r66, r67, r68, r69, r70], defers := [] }
/-- what a round begins with. -/
def TrAx (w : World) (s : Nat) (o : Int × Int) (p : Nat) (a' : Act) (W : World) : Prop := ∃ Bx, s ≤ Bx ∧ W.cell? ⟨Bx, 0, none⟩ = some (.int .i64 o.1) ∧ W.cell? ⟨Bx, 1, none⟩ = some (.int .i64 o.2) ∧ ∃ r0 r1 r2 r5 r6 r7 r9 r10 r13 r14 r15 r16 r17 r18 r19 r20 r21 r22 r23 r24 r25 r26 r27 r28 r29 r30 r31 r32 r33 r34 r35 r36 r37 r38 r39 r40 r41 r42 r43 r44 r45 r46 r47 r48 r49 r50 r51 r52 r53 r54 r55 r56 r57 r58 r59 r60 r61 r62 r63 r64 r65 r66 r67 r68 r69 r70 : Value, a' = trAct (.pointer (some ⟨w.heap.size, 0, none⟩)) (.pointer (some ⟨w.heap.size + 1, 0, none⟩)) (.pointer (some ⟨w.heap.size + 1 + 1 + 1, 0, none⟩)) (.int .i64 (p : Int)) (.pointer (some ⟨Bx, 0, none⟩)) r0 r1 r2 r5 r6 r7 r9 r10 r13 r14 r15 r16 r17 r18 r19 r20 r21 r22 r23 r24 r25 r26 r27 r28 r29 r30 r31 r32 r33 r34 r35 r36 r37 r38 r39 r40 r41 r42 r43 r44 r45 r46 r47 r48 r49 r50 r51 r52 r53 r54 r55 r56 r57 r58 r59 r60 r61 r62 r63 r64 r65 r66 r67 r68 r69 r70
set_option maxRecDepth 20000 in
theorem keeps_of_below {B : Nat} {W W' : World} (h : Below W.heap.size W W') : KeepsFrom B W W' := ⟨h.size, fun k _ _ hk _ => (h.block k (Array.getElem?_eq_some_iff.1 hk).1).trans hk⟩
set_option maxRecDepth 100000 in
set_option maxHeartbeats 4000000 in
theorem truths_in (b off cap n B : Nat) (aao : Option Addr) (an ac : Nat) (lo : Option Addr) (ln lc : Nat) (l : List (Int × Int)) (letter : List Bool) (claim : Int) (w : World) (h0n : 0 < n) (h60 : n ≤ 60) (hn : n = l.length) (hz : endsCode (l.map Prod.fst) = 0) (hops : OpsAt w b off l) (hbl : b < w.heap.size)
    (hrow : w.rowIs B 3 n (fun q => .int .i64 (endAt (l.map Prod.fst) q))) (han : an = (aheadL l).length) (hav : IntsV w (.slice aao an ac) (aheadL l)) (h6 : an ≤ 6) (hln : ln = letter.length) (hL : BoolsV w (.slice lo ln lc) letter) (hlf : lfirst ln l = 0) (h0 : 0 ≤ claim) (h1 : claim < 2 ^ an) :
    Calls Tryd.prog 37 #[.agg #[.slice (some ⟨b, off, none⟩) n cap, .slice (some ⟨B, 0, none⟩) n n, .slice aao an ac], .slice lo ln lc, .int .i64 claim] w fun e w' => ∃ bH, e = .returned (.tuple #[.slice (some ⟨bH, 0, none⟩) n n, .int .i64 0]) ∧ Below w.heap.size w w' ∧ Hid (w'.rowIs bH 4 n (fun j => .bool (tru l letter claim j))) ∧ w.heap.size ≤ bH := by
  refine (callsIn_wide (n := 8)).1 ?_
  refine callsIn_of_wp_marks Tryd.func37 rfl trivial ?_ rfl
  simp only [Tryd.ntmps37, List.size_toArray, List.length_cons, List.length_nil, Nat.reduceAdd, Nat.reduceSub, Array.replicate_succ, Array.replicate_zero, List.push_toArray, List.append_toArray, List.nil_append, List.cons_append]
  have hmk := run_make_row' (P := Tryd.prog) 81 4 (.bool false) 1 Tryd.underlying81 infoBool rfl .i64 .i64 n (by omega) (by omega)
  have HO : Hid (OpsAt w b off l) := hops
  have HN : Hid (n = l.length) := hn
  have HR : Hid (w.rowIs B 3 n (fun q => .int .i64 (endAt (l.map Prod.fst) q))) := hrow
  have HAN : Hid (an = (aheadL l).length) := han
  have HAV : Hid (IntsV w (.slice aao an ac) (aheadL l)) := hav
  have HLN : Hid (ln = letter.length) := hln
  have HL : Hid (BoolsV w (.slice lo ln lc) letter) := hL
  have HLF : Hid (lfirst ln l = 0) := hlf
  have HZ : Hid (endsCode (l.map Prod.fst) = 0) := hz
  clear hops hn hrow han hav hln hL hlf hz
  have hcase : an = 0 ∨ an = 1 ∨ an = 2 ∨ an = 3 ∨ an = 4 ∨ an = 5 ∨ an = 6 := by omega
  have hsh : (2 : Int) ^ an ≤ 64 := by rcases hcase with rfl | rfl | rfl | rfl | rfl | rfl | rfl <;> decide
  clear hcase
  gi_wp2
  have HS0 : Hid (TrSt w (.slice (some ⟨b, off, none⟩) n cap) (.slice (some ⟨B, 0, none⟩) n n) (.slice aao an ac) (.slice lo ln lc) n (iniB l claim 0) 0 ((((w.alloc (.cells #[.slice (some ⟨b, off, none⟩) n cap, .slice (some ⟨B, 0, none⟩) n n, .slice aao an ac] 95)).alloc (.cells #[.slice lo ln lc] 81)).alloc (.cells (madeCells #[.bool false] n) 4)).alloc (.cells #[.slice (some ⟨w.heap.size + 1 + 1, 0, none⟩) n n] 81))) := by
    have r := World.rowIs_made ((w.alloc (.cells #[.slice (some ⟨b, off, none⟩) n cap, .slice (some ⟨B, 0, none⟩) n n, .slice aao an ac] 95)).alloc (.cells #[.slice lo ln lc] 81)) (.bool false) n 4
    simp only [World.size_alloc] at r
    have hB3 : ∀ o1 o2 o3 o4, Below (w.heap.size + 1) (w.alloc o1) ((((w.alloc o1).alloc o2).alloc o3).alloc o4) := fun o1 o2 o3 o4 => (((Below.refl _ _).alloc (by simp) o2).alloc (by simp) o3).alloc (by simp) o4
    exact ⟨(Three.new w _ _ _ _).below (hB3 _ _ _ _) (Nat.lt_succ_self _), by simp [go_sem], by simp [go_sem], (r.of_block (Below.heap_alloc _ _ _ r.lt)).congr (fun j _ => by simp [iniB]), ((((Below.refl _ _).alloc (Nat.le_refl _) _).alloc (by simp) _).alloc (by simp; omega) _).alloc (by simp; omega) _, Nat.zero_le _⟩
  gi_loopw [32] (fun i wr => ∃ k : Nat, k ≤ an ∧ i = .int .i64 k ∧ Hid (TrSt w (.slice (some ⟨b, off, none⟩) n cap) (.slice (some ⟨B, 0, none⟩) n n) (.slice aao an ac) (.slice lo ln lc) n (iniB l claim k) 0 wr)) (fun i _ => an - (intOf i).toNat)
  case atStart =>
    exact ⟨0, Nat.zero_le _, rfl, HS0.out⟩
  case round =>
    obtain ⟨k, hk, rfl, HSt⟩ := hrel
    have hst := HSt.out
    by_cases hlt : k < an
    · obtain ⟨p, hp, hpn, hlk, hpi⟩ := aheadTo_get l l.length k (by have := HAN.out; unfold aheadL at this; omega)
      obtain ⟨ao', cap', hsl, hai⟩ := HAV.out
      injection hsl with e1 e2 e3
      subst e1
      obtain ⟨ab, aoff, rfl, habl, haat⟩ := hai (by intro h; have := HAN.out; rw [h] at this; simp at this; omega)
      have hca := (hst.below.cell (p := ⟨ab, aoff + k, none⟩) habl).trans (haat k (by rw [← HAN.out]; exact hlt))
      have hca' : wr.cell? ⟨ab, aoff + k, none⟩ = some (.int .i64 (p : Int)) := by rw [hca]; exact congrArg (fun z => some (Value.int .i64 z)) hp
      have hch := hst.holds
      have hf := hst.row.frozen p
      have hpn' : p < n := by rw [HN.out]; exact hpn
      have hcp := hst.row.cell hpn'
      obtain ⟨t0, t1, t2, _⟩ := hst.three
      have HP : Hid (lookB (l.getD p (0, 0)).1 = true ∧ (aheadTo l p).length = k) := ⟨hlk, hpi⟩
      clear hp hpn hlk hpi hai haat hca e2 e3
      have hmx : Tryd.prog.follows .mixedOrders = true := by kernel_rfl
      gi_wp2
      gi_region_o
      all_goals gi_wp2
      refine ⟨⟨k + 1, hlt, by first | rfl | simp, ?_⟩, by simp [intOf]; omega⟩
      rw [bits_bitB h0 (by omega)]
      exact ((hst.put p (bitB claim k)).congr (fun j _ => iniB_step HP.out.1 HP.out.2 j)).drew
    · obtain rfl : k = an := by omega
      have HAL : Hid (k = (aheadL l).length) := HAN.out
      obtain ⟨t0, t1, t2, _⟩ := hst.three
      generalize wr = W1 at *
      clear hmk HS0 hlt hk HAV
      gi_wp2_with (refine ⟨trivial, ?_⟩; gi_at_call 46; refine (back_in Fence.wide _ trivial rfl _ _ _ _).mono ?_; rintro e w' ⟨rfl, rfl⟩)
      have hs3 : w.heap.size + 4 ≤ W1.heap.size := by have := World.block_lt_of_cell? W1 ⟨w.heap.size + 1 + 1 + 1, 0, none⟩ hst.holds; simp at this; omega
      refine wpIn_rangeFunc_ownH rfl (by decide) (gf := 58) (lb := #[.pointer (some ⟨W1.heap.size, 0, none⟩)]) rfl trivial (enters_of Tryd.func58 (by kernel_rfl) rfl)
        (back_stops Fence.wide 7 trivial rfl (by decide) W1.heap.size w.heap.size b off n cap l h0n h60 HN.out hbl _ (by simp) (by simp; omega) (by simp [go_sem]) (HO.out.below (hst.below.alloc hst.below.size _) hbl)) backK_t (backK_b (by simp; omega) (by simp)) (Below.refl _ _) (fun _ => rfl)
        (fun pre W => TrSt w (.slice (some ⟨b, off, none⟩) n cap) (.slice (some ⟨B, 0, none⟩) n n) (.slice aao k ac) (.slice lo ln lc) n (foldB l letter (iniB l claim k) pre) (W1.heap.size + 1) W)
        (fun _ _ _ => False)
        (fun s A Bw row hs hg hr => hs.later (B := W1.heap.size + 1) ((Below.refl _ _).grown hg hs.size (fun z e => by have := (hr z e).1; simp at this; omega)) (by omega))
        (fun _ _ _ _ _ hs _ _ => hs)
        ?h0 (fun x => TrAx w (W1.heap.size + 1) (l.getD x.1 (0, 0)) x.1) (fun x a' _ X Y row hs hg hr => by obtain ⟨Bx, h1, h2, h3, h4⟩ := hs; exact ⟨Bx, h1, cell_kept h2 hg (fun r e => (hr r e).2), cell_kept h3 hg (fun r e => (hr r e).2), h4⟩)
        ?assign ?body ?done ?stop
      case h0 =>
        have t := hst.later ((Below.refl W1.heap.size W1).alloc (Nat.le_refl _) (.cells #[.slice (some ⟨b, off, none⟩) n cap] 32)) (by omega)
        exact ⟨t.three, t.letter, t.holds, t.row, t.below, by simp⟩
      case assign =>
        rintro L pre x W K hi hK
        have hsz := hi.size
        unfold backEnc
        gi_wp2
        refine hK _ _ ?ka ?kb ?kc ?kd
        case ka => exact (KeepsOthers.alloc _ _).from _
        case kb => exact ⟨(Below.refl _ W).alloc hi.below.size _, Below.heap_alloc _ _ _ (by omega)⟩
        case kc => exact hi.later ((Below.refl W.heap.size W).alloc (Nat.le_refl _) _) (by omega)
        case kd => exact ⟨W.heap.size, by omega, by simp [go_sem], by simp [go_sem], _, _, _, _, _, _, _, _, _, _, _, _, _, _, _, _, _, _, _, _, _, _, _, _, _, _, _, _, _, _, _, _, _, _, _, _, _, _, _, _, _, _, _, _, _, _, _, _, _, _, _, _, _, _, _, _, _, _, _, _, _, _, _, _, _, _, rfl⟩
      case body =>
        rintro L pre x a' W hl ⟨r, hr⟩ hi ⟨Bx, hBx, cx0, cx1, r0, r1, r2, r5, r6, r7, r9, r10, r13, r14, r15, r16, r17, r18, r19, r20, r21, r22, r23, r24, r25, r26, r27, r28, r29, r30, r31, r32, r33, r34, r35, r36, r37, r38, r39, r40, r41, r42, r43, r44, r45, r46, r47, r48, r49, r50, r51, r52, r53, r54, r55, r56, r57, r58, r59, r60, r61, r62, r63, r64, r65, r66, r67, r68, r69, r70, rfl⟩ hlen
        have hsz := hi.size
        have hfa := lfirst_all HLF.out x.1 (by rw [← HN.out]; exact x.2)
        obtain ⟨hp1, hp2⟩ := part_in HZ.out (p := x.1) (by rw [← HN.out]; exact x.2)
        have HSt : Hid (TrSt w (.slice (some ⟨b, off, none⟩) n cap) (.slice (some ⟨B, 0, none⟩) n n) (.slice aao k ac) (.slice lo ln lc) n (foldB l letter (iniB l claim k) pre) (W1.heap.size + 1) W) := hi
        have HNx := foldB_snoc l letter (iniB l claim k) pre x
        unfold stepB at HNx
        have HNx' : Hid (foldB l letter (iniB l claim k) (pre ++ [x]) = if lookB (l.getD x.1 (0, 0)).1 = true then foldB l letter (iniB l claim k) pre else fun j => if j = x.1 then mkB (l.getD x.1 (0, 0)) letter (foldB l letter (iniB l claim k) pre (x.1 + 1)) (foldB l letter (iniB l claim k) pre (sec l x.1)) else foldB l letter (iniB l claim k) pre j) := HNx
        clear HNx
        obtain ⟨nx, hnx⟩ : ∃ nx, foldB l letter (iniB l claim k) (pre ++ [x]) = nx := ⟨_, rfl⟩
        have HNX : Hid (foldB l letter (iniB l claim k) (pre ++ [x]) = nx) := hnx
        rw [hnx] at HNx'
        clear hnx
        generalize foldB l letter (iniB l claim k) pre = h at *
        obtain ⟨p, hpn⟩ := x
        simp only at cx0 cx1 hfa hp1 hp2 HNx'
        generalize l.getD p (0, 0) = xy at *
        obtain ⟨kx, vx⟩ := xy
        simp only at cx0 cx1 hfa hp1 hp2 HNx'
        have hlk := fun w => look_any kx w
        have hBxl : Bx < W.heap.size := World.block_lt_of_cell? W ⟨Bx, 0, none⟩ cx0
        have hmx : Tryd.prog.follows .mixedOrders = true := by kernel_rfl
        unfold trAct
        cases hb : lookB kx with
        | true =>
          have HE : Hid (nx = h) := by show _ = _; rw [HNx'.out, if_pos hb]
          rw [hb] at hlk
          clear hb HNx' hp1 hp2 hfa
          gi_wp2_with (refine ⟨trivial, ?_⟩; gi_at_call 43; refine (CallsIn.inRound L (callsIn_wide.2 (hlk _))).mono ?_; rintro e w2 ⟨rfl, rfl⟩)
          refine ⟨KeepsFrom.refl _ _, ⟨Below.refl _ _, rfl⟩, ?_⟩
          show TrSt w _ _ _ _ n (foldB l letter (iniB l claim k) (pre ++ [⟨p, hpn⟩])) _ _
          rw [HNX.out, HE.out]
          exact HSt.out
        | false =>
          have HE : Hid (nx = fun j => if j = p then mkB (kx, vx) letter (h (p + 1)) (h (sec l p)) else h j) := by show _ = _; rw [HNx'.out, if_neg (by rw [hb]; decide)]
          rw [hb] at hlk
          have hop : lopErr (ln : Int) (kx, vx) = 0 := hfa
          have hk8 : 8 ≤ kx := by
            simp only [lopErr] at hop
            split at hop
            · omega
            · omega
          have h13 : kx = 13 → 0 ≤ vx ∧ vx < letter.length := fun e => by
            simp only [lopErr] at hop
            rw [if_neg (by omega), if_pos e] at hop
            split at hop
            · omega
            · have := HLN.out; omega
          have hpr : kx = 10 ∨ kx = 8 ∨ kx = 9 → p + 1 < n := fun e => by rw [HN.out]; exact hp1 (by rcases e with rfl | rfl | rfl <;> decide)
          have hps : kx = 8 ∨ kx = 9 → sec l p < n := fun e => by rw [HN.out]; exact (hp2 (by rcases e with rfl | rfl <;> decide)).2
          have hBl : B < w.heap.size := HR.out.lt
          have hpa := parts_any b off cap n B (w.heap.size + 1 + 1) p _ h l aao k ac rfl W (fun j hj => hi.row.cell hj) hi.row.lt (fun j hj => (hi.below.cell (p := ⟨B, j, none⟩) hBl).trans (HR.out.cell hj)) (Nat.lt_of_lt_of_le hBl hi.below.size)
          obtain ⟨t0, t1, t2, _⟩ := hi.three
          have hch := hi.holds
          have hcl := hi.letter
          have HMk : Hid (∀ w2, Below W.heap.size W w2 → PartsAt w2 (W.heap.size + 1 + 1) W.heap.size (W.heap.size + 1) (w.heap.size + 1 + 1) n B p h l → Calls Tryd.prog 48 #[.agg #[.int .i64 kx, .int .i64 vx], .slice lo ln lc, .func (.func 59) #[] #[.pointer (some ⟨W.heap.size + 1 + 1, 0, none⟩), .pointer (some ⟨W.heap.size + 1, 0, none⟩)], .func (.func 60) #[] #[.pointer (some ⟨W.heap.size + 1 + 1, 0, none⟩), .pointer (some ⟨W.heap.size, 0, none⟩), .pointer (some ⟨W.heap.size + 1, 0, none⟩)]] w2.drew fun e w' =>
              e = .returned (.bool (mkB (kx, vx) letter (h (p + 1)) (h (sec l p)))) ∧ Below W.heap.size W w' ∧ w'.cell? ⟨w.heap.size + 1 + 1 + 1, 0, none⟩ = some (.slice (some ⟨w.heap.size + 1 + 1, 0, none⟩) n n) ∧ w'.cell? ⟨w.heap.size + 1 + 1, p, none⟩ = some (.bool (h p)) ∧ w'.frozen? ⟨w.heap.size + 1 + 1, p, none⟩ = false) := fun w2 hb2 hP => by
            have hlt : W.heap.size + 1 + 1 < w2.heap.size := World.block_lt_of_cell? w2 ⟨W.heap.size + 1 + 1, 0, none⟩ hP.holds
            have hbd : Below W.heap.size W w2.drew := hb2.drew
            have hPd : PartsAt w2.drew (W.heap.size + 1 + 1) W.heap.size (W.heap.size + 1) (w.heap.size + 1 + 1) n B p h l := ⟨hP.holds, hP.row, hP.ends, hP.erow, hP.place⟩
            have hLd : BoolsV w2.drew (.slice lo letter.length lc) letter := by rw [← HLN.out]; exact (HL.out.below hi.below).below hbd
            have hsw : w2.drew.heap.size = w2.heap.size := rfl
            have hrl := hi.row.lt
            rw [HLN.out]
            refine (makes_any kx vx lo lc _ _ _ _ n B p letter h l w2.drew h60 hLd hPd (by omega) (by omega) (by omega) (by omega) (by omega) h13 hpr hps).mono fun e w' ⟨he, hb⟩ => ?_
            have hbf : Below W.heap.size W w' := hbd.trans (hb.mono (by omega))
            exact ⟨he, hbf, (hbf.cell (p := ⟨w.heap.size + 1 + 1 + 1, 0, none⟩) (World.block_lt_of_cell? W _ hch)).trans hch, (hbf.cell (p := ⟨w.heap.size + 1 + 1, p, none⟩) hrl).trans (hi.row.cell hpn), (hbf.frozen (p := ⟨w.heap.size + 1 + 1, p, none⟩) hrl).trans (hi.row.frozen p)⟩
          generalize mkB (kx, vx) letter (h (p + 1)) (h (sec l p)) = tv at HMk HE
          have HC2 : Hid (∀ w2, Below W.heap.size W w2 → w2.cell? ⟨w.heap.size + 1 + 1 + 1, 0, none⟩ = some (.slice (some ⟨w.heap.size + 1 + 1, 0, none⟩) n n) ∧ w2.cell? ⟨w.heap.size + 1, 0, none⟩ = some (.slice lo ln lc) ∧ w2.cell? ⟨Bx, 0, none⟩ = some (.int .i64 kx) ∧ w2.cell? ⟨Bx, 1, none⟩ = some (.int .i64 vx)) := fun w2 hb => ⟨(hb.cell (p := ⟨w.heap.size + 1 + 1 + 1, 0, none⟩) (World.block_lt_of_cell? W _ hch)).trans hch, (hb.cell (p := ⟨w.heap.size + 1, 0, none⟩) (World.block_lt_of_cell? W _ hcl)).trans hcl, (hb.cell (p := ⟨Bx, 0, none⟩) hBxl).trans cx0, (hb.cell (p := ⟨Bx, 1, none⟩) hBxl).trans cx1⟩
          clear hb HNx' hp1 hp2 hfa hop h13 hpr hps hi
          gi_wp2_with (first | (refine ⟨trivial, ?_⟩; gi_at_call 43; refine (CallsIn.inRound L (callsIn_wide.2 (hlk _))).mono ?_; rintro e wz ⟨rfl, hwz⟩; obtain rfl := hwz.symm) | (refine ⟨trivial, ?_⟩; gi_at_call 47; refine (CallsIn.inRound L (callsIn_wide.2 hpa)).mono ?_; rintro e w2 ⟨rfl, hb2, HP2⟩; obtain ⟨d0, d1, d2, d3⟩ := HC2.out w2 hb2; have hma := HMk.out w2 hb2 HP2.out))
          refine region_round (fun w' => w'.cell? ⟨w.heap.size + 1 + 1 + 1, 0, none⟩ = some (.slice (some ⟨w.heap.size + 1 + 1, 0, none⟩) n n) ∧ w'.cell? ⟨w.heap.size + 1, 0, none⟩ = some (.slice lo ln lc) ∧ w'.cell? ⟨Bx, 0, none⟩ = some (.int .i64 kx) ∧ w'.cell? ⟨Bx, 1, none⟩ = some (.int .i64 vx)) hmx ?nd ?nl ?_
          case nd =>
            intro i o ho c
            have hi : i < 9 := (Array.getElem?_eq_some_iff.1 ho).1
            have hc : i = 0 ∨ i = 1 ∨ i = 2 ∨ i = 3 ∨ i = 4 ∨ i = 5 ∨ i = 6 ∨ i = 7 ∨ i = 8 := by omega
            rcases hc with rfl | rfl | rfl | rfl | rfl | rfl | rfl | rfl | rfl <;> (obtain rfl := Option.some.inj ho; exact fun h => by cases h)
          case nl => exact fun ⟨_, _, h⟩ => h
          have hS2 : w2.drew.cell? ⟨w.heap.size + 1 + 1 + 1, 0, none⟩ = some (.slice (some ⟨w.heap.size + 1 + 1, 0, none⟩) n n) ∧ w2.drew.cell? ⟨w.heap.size + 1, 0, none⟩ = some (.slice lo ln lc) ∧ w2.drew.cell? ⟨Bx, 0, none⟩ = some (.int .i64 kx) ∧ w2.drew.cell? ⟨Bx, 1, none⟩ = some (.int .i64 vx) := ⟨d0, d1, d2, d3⟩
          refine wpAnyH_take (i := 0) (v := .slice (some ⟨w.heap.size + 1 + 1, 0, none⟩) n n) rfl (by kernel_rfl) (by kernel_rfl) (by kernel_rfl) (fun _ _ _ h => h) (Or.inl ⟨by rfl, fun wq hSw => by obtain ⟨q0, q1, q2, q3⟩ := hSw; go_simp⟩) hS2 ?_
          simp only [Act.put, List.setIfInBounds_toArray]
          refine wpAnyH_take (i := 1) (v := .int .i64 (p : Int)) rfl (by kernel_rfl) (by kernel_rfl) (by kernel_rfl) (fun _ _ _ h => h) (Or.inl ⟨by rfl, fun wq hSw => by obtain ⟨q0, q1, q2, q3⟩ := hSw; go_simp⟩) hS2 ?_
          simp only [Act.put]
          refine wpAnyH_take (i := 2) (v := .agg #[.int .i64 kx, .int .i64 vx]) rfl (by kernel_rfl) (by kernel_rfl) (by kernel_rfl) (fun _ _ _ h => h) (Or.inl ⟨by rfl, fun wq hSw => by obtain ⟨q0, q1, q2, q3⟩ := hSw; go_simp⟩) hS2 ?_
          simp only [Act.put]
          refine wpAnyH_take (i := 3) (v := .slice lo ln lc) rfl (by kernel_rfl) (by kernel_rfl) (by kernel_rfl) (fun _ _ _ h => h) (Or.inl ⟨by rfl, fun wq hSw => by obtain ⟨q0, q1, q2, q3⟩ := hSw; go_simp⟩) hS2 ?_
          simp only [Act.put]
          refine wpAnyH_take (i := 4) (v := .func (.func 59) #[] #[.pointer (some ⟨W.heap.size + 1 + 1, 0, none⟩), .pointer (some ⟨W.heap.size + 1, 0, none⟩)]) rfl (by kernel_rfl) (by kernel_rfl) (by kernel_rfl) (fun _ _ _ h => h) (Or.inl ⟨by rfl, fun wq hSw => by obtain ⟨q0, q1, q2, q3⟩ := hSw; go_simp⟩) hS2 ?_
          simp only [Act.put]
          refine wpAnyH_take (i := 5) (v := .func (.func 60) #[] #[.pointer (some ⟨W.heap.size + 1 + 1, 0, none⟩), .pointer (some ⟨W.heap.size, 0, none⟩), .pointer (some ⟨W.heap.size + 1, 0, none⟩)]) rfl (by kernel_rfl) (by kernel_rfl) (by kernel_rfl) (fun _ _ _ h => h) (Or.inl ⟨by rfl, fun wq hSw => by obtain ⟨q0, q1, q2, q3⟩ := hSw; go_simp⟩) hS2 ?_
          simp only [Act.put]
          refine wpAnyH_all (rs := [6]) (by kernel_rfl) (by decide) ?_
          intro i hi
          obtain rfl : i = 6 := by simpa using hi
          refine wpOp_call rfl (by rfl) (by go_simp) hma ?_
          rintro e w3 ⟨rfl, hb3, g0, g1, g2⟩
          obtain ⟨e0, e1, e2, e3⟩ := HC2.out w3 hb3
          refine ⟨_, rfl, ⟨e0, e1, e2, e3⟩, ?_⟩
          simp only [Act.put]
          refine wpAnyH_take (i := 7) (v := .pointer (some ⟨w.heap.size + 1 + 1, p, none⟩)) rfl (by kernel_rfl) (by kernel_rfl) (by kernel_rfl) (fun _ _ _ h => h) (Or.inl ⟨by rfl, fun wq _ => by go_simp⟩) ⟨e0, e1, e2, e3⟩ ?_
          simp only [Act.put]
          refine wpAnyH_all (rs := [8]) (by kernel_rfl) (by decide) ?_
          intro i hi
          obtain rfl : i = 8 := by simpa using hi
          have hco : ∀ z q, z ≠ w.heap.size + 1 + 1 → (w3.setCell ⟨w.heap.size + 1 + 1, p, none⟩ (.bool tv)).cell? ⟨z, q, none⟩ = w3.cell? ⟨z, q, none⟩ := fun z q hz => World.cell?_of_block (w := w3) (Below.heap_setCell w3 _ _ z hz)
          refine wpOp_skip (w' := w3.setCell ⟨w.heap.size + 1 + 1, p, none⟩ (.bool tv)) rfl (by rfl) (by go_simp) ⟨⟨(hco _ _ (by omega)).trans e0, (hco _ _ (by omega)).trans e1, (hco _ _ (by omega)).trans e2, (hco _ _ (by omega)).trans e3⟩, ?_⟩
          refine wpAnyH_done (by kernel_rfl) ?_ _
          have hW4 : w.heap.size + 4 ≤ W.heap.size := by omega
          refine ⟨(keeps_of_below hb3).trans ((KeepsOthers.setCell _ _ _).from _), ⟨(hb3.mono HSt.out.below.size).setCell (by simp; omega) _, (Below.heap_setCell w3 _ _ W1.heap.size (by simp; omega)).trans (hb3.block _ (by omega))⟩, ?_⟩
          show TrSt w _ _ _ _ n (foldB l letter (iniB l claim k) (pre ++ [⟨p, hpn⟩])) _ _
          rw [HNX.out, HE.out]
          exact (HSt.out.later hb3 hW4).put p tv
      case done =>
        rintro D xs W hD rfl hi hK
        have hch := hi.holds
        have HT : Hid (TrSt w (.slice (some ⟨b, off, none⟩) n cap) (.slice (some ⟨B, 0, none⟩) n n) (.slice aao k ac) (.slice lo ln lc) n (tru l letter claim) (W1.heap.size + 1) W) := hi.congr (fun j hj => by rw [HAL.out, foldB_done HZ.out h0n HN.out n (Nat.le_refl _) j hj, if_pos (by omega)])
        clear hi
        gi_wp2
        refine ⟨by simp, .inl ⟨_, _, rfl, run_takeDeferred hK, ?_⟩⟩
        have hb' : Below (W1.heap.size + 1) W (W.putObj D (.deferred none)) := belowK_b (w := W1.alloc (.cells #[.slice (some ⟨b, off, none⟩) n cap] 32)) (by simp) W D _ _ hD hK rfl rfl
        have t' := HT.out.later hb' (by omega)
        exact ⟨_, results_tmp2 rfl _ _ _, _, rfl, t'.below, t'.row, by omega⟩
      case stop =>
        rintro D c pre W _ _ h _
        exact h.elim
end Go.Proofs.YtcddocjpdlacaaaDoor

/-
  The contract of logic.Truths.
-/
namespace Go.Proofs.YtcddocjpdlacaaaDoor
open Go.ChangeShapes Go.WideShapes Go.ChangeAt Go.RowKit Go.Deep
open Terms

/-- a formula that was read. -/
def WholeAt (w : World) (v : Value) (B : Nat) (av : Value) (l : List (Int × Int)) : Prop :=
  ∃ b off cap, v = .slice (some ⟨b, off, none⟩) l.length cap ∧ b < w.heap.size ∧ OpsAt w b off l ∧ w.rowIs B 3 l.length (fun q => .int .i64 (endAt (l.map Prod.fst) q)) ∧ IntsV w av (aheadL l)
set_option maxRecDepth 20000 in
theorem WholeAt.below {w w' : World} {v : Value} {B : Nat} {av : Value} {l : List (Int × Int)} (h : WholeAt w v B av l) (hb : Below w.heap.size w w') : WholeAt w' v B av l := by
  obtain ⟨b, off, cap, h1, h2, h3, h4, h5⟩ := h
  exact ⟨b, off, cap, h1, Nat.lt_of_lt_of_le h2 hb.size, h3.below hb h2, row_later h4 hb, h5.below hb⟩
/-- a claim that is none. -/
def ClaimNo (l : List (Int × Int)) (claim : Int) : Prop := claim < 0 ∨ 2 ^ (aheadL l).length ≤ claim
/-- What the method leaves. -/
def MethPost (l : List (Int × Int)) (letter : List Bool) (claim : Int) (w : World) (e : Ending) (w' : World) : Prop :=
  Below w.heap.size w w' ∧ (ClaimNo l claim → e = .returned (.tuple #[.slice none 0 0, .int .i64 2])) ∧ (¬ ClaimNo l claim → ∃ bH, e = .returned (.tuple #[.slice (some ⟨bH, 0, none⟩) l.length l.length, .int .i64 0]) ∧ w'.rowIs bH 4 l.length (fun j => .bool (tru l letter claim j)))
set_option maxRecDepth 20000 in
theorem meth_any (v : Value) (B : Nat) (av lv : Value) (l : List (Int × Int)) (letter : List Bool) (claim : Int) (w : World) (hc : lcode letter.length l = 0) (hV : WholeAt w v B av l) (hL : BoolsV w lv letter) :
    Calls Tryd.prog 37 #[.agg #[v, .slice (some ⟨B, 0, none⟩) l.length l.length, av], lv, .int .i64 claim] w (MethPost l letter claim w) := by
  obtain ⟨hp0, hp6, hz, hlf, h6⟩ := lcode_zero hc
  obtain ⟨hne, h60⟩ := ends_ne hz
  rw [List.length_map] at h60
  obtain ⟨b, off, cap, rfl, hbl, hat, hrow, hav⟩ := hV
  obtain ⟨aao, ac, rfl, ha⟩ := id hav
  obtain ⟨lo, lc, rfl, hl⟩ := id hL
  by_cases hcl : ClaimNo l claim
  · exact (truths_out _ _ _ _ aao _ ac claim lo _ lc (some ⟨b, off, none⟩) (some ⟨B, 0, none⟩) l.length cap l.length l.length rfl rfl rfl rfl h6 w hcl).mono fun e w' ⟨h1, h2⟩ => ⟨h2, fun _ => h1, fun h => absurd hcl h⟩
  · have h0n : 0 < l.length := by
      cases l with
      | nil => exact absurd rfl hne
      | cons _ _ => simp
    refine (truths_in b off cap l.length B aao _ ac lo _ lc l letter claim w h0n h60 rfl hz hat hbl hrow rfl hav h6 rfl hL hlf (by unfold ClaimNo at hcl; omega) (by unfold ClaimNo at hcl; omega)).mono fun e w' ⟨bH, h1, h2, h3, _⟩ => ⟨h2, fun h => absurd h hcl, fun _ => ⟨bH, h1, h3.out⟩⟩

/-- what Truths answers. -/
noncomputable def tcode (l : List (Int × Int)) (letter : List Bool) (claim : Int) : Int := by classical exact if lcode letter.length l = 0 then (if ClaimNo l claim then 2 else 0) else lcode letter.length l
noncomputable def truL (l : List (Int × Int)) (letter : List Bool) (claim : Int) : List Bool := if tcode l letter claim = 0 then (List.range l.length).map (tru l letter claim) else []
set_option maxRecDepth 20000 in
theorem tcode_bad {l : List (Int × Int)} {letter : List Bool} {claim : Int} (h : lcode letter.length l ≠ 0) : tcode l letter claim = lcode letter.length l := by unfold tcode; rw [if_neg h]
set_option maxRecDepth 20000 in
theorem tcode_no {l : List (Int × Int)} {letter : List Bool} {claim : Int} (h : lcode letter.length l = 0) (h2 : ClaimNo l claim) : tcode l letter claim = 2 := by unfold tcode; rw [if_pos h, if_pos h2]
set_option maxRecDepth 20000 in
theorem tcode_ok {l : List (Int × Int)} {letter : List Bool} {claim : Int} (h : lcode letter.length l = 0) (h2 : ¬ ClaimNo l claim) : tcode l letter claim = 0 := by unfold tcode; rw [if_pos h, if_neg h2]
set_option maxRecDepth 20000 in
theorem boolsV_tru {w : World} {bH : Nat} {l : List (Int × Int)} {letter : List Bool} {claim : Int} (h : w.rowIs bH 4 l.length (fun j => .bool (tru l letter claim j))) : BoolsV w (.slice (some ⟨bH, 0, none⟩) l.length l.length) ((List.range l.length).map (tru l letter claim)) := by
  have h2 := boolsV_of_row (w := w) (B := bH) (l := (List.range l.length).map (tru l letter claim)) (by
    rw [List.length_map, List.length_range]
    exact h.congr fun j hj => by simp [List.getD_eq_getElem?_getD, hj])
  rwa [List.length_map, List.length_range] at h2

set_option maxRecDepth 20000 in
/-- What read leaves, in one form. -/
theorem lread2 (v : Value) (l : List (Int × Int)) (props : Int) (w : World) (hB : 0 < w.heap.size) (hT : TabAt w) (hV : OpsV w v l) :
    Calls Tryd.prog 33 #[v, .int .i64 props] w fun e w' => Below w.heap.size w w' ∧ (lcode props l ≠ 0 → e = .returned (.tuple #[.agg #[.slice none 0 0, .slice none 0 0, .slice none 0 0], .int .i64 (lcode props l)])) ∧ (lcode props l = 0 → ∃ B aao ac, e = .returned (.tuple #[.agg #[v, .slice (some ⟨B, 0, none⟩) l.length l.length, .slice aao (aheadL l).length ac], .int .i64 0]) ∧ Hid (WholeAt w' v B (.slice aao (aheadL l).length ac) l)) := by
  refine (lread_any v l props w hB hT hV).mono fun e w' ⟨h1, h2, h3⟩ => ⟨h1, h2, fun hz => ?_⟩
  obtain ⟨B, av, _, he, hrow, ho⟩ := h3 hz
  obtain ⟨aao, ac, rfl⟩ := owns_slice ho
  obtain ⟨_, _, hze, _, _⟩ := lcode_zero hz
  obtain ⟨hne, _⟩ := ends_ne hze
  obtain ⟨b, off, hat⟩ : ∃ b off, (∃ cap, v = .slice (some ⟨b, off, none⟩) l.length cap) ∧ b < w'.heap.size ∧ OpsAt w' b off l := by
    obtain ⟨ao, cap, rfl, _, h⟩ := hV.below h1
    obtain ⟨b, off, rfl, hlt, hat⟩ := h (by rintro rfl; exact hne rfl)
    exact ⟨b, off, ⟨cap, rfl⟩, hlt, hat⟩
  obtain ⟨⟨cap, hv⟩, hlt, hat⟩ := hat
  exact ⟨B, aao, ac, he, b, off, cap, hv, hlt, hat, hrow, intsV_of_owns ho⟩

set_option maxHeartbeats 800000 in
set_option maxRecDepth 20000 in
/-- THE CONTRACT OF logic.Truths. -/
theorem ltruths_any (v lv : Value) (l : List (Int × Int)) (letter : List Bool) (claim : Int) (w : World) (hB : 0 < w.heap.size) (hT : TabAt w) (hV : OpsV w v l) (hL : BoolsV w lv letter) :
    Calls Tryd.prog 23 #[v, lv, .int .i64 claim] w fun e w' => ∃ v', e = .returned (.tuple #[v', .int .i64 (tcode l letter claim)]) ∧ Below w.heap.size w w' ∧ BoolsV w' v' (truL l letter claim) := by
  have hrd := lread2 v l letter.length w hB hT hV
  obtain ⟨lo, lc, rfl, hl⟩ := id hL
  obtain ⟨oo, oc, rfl, _⟩ := id hV
  by_cases hc : lcode letter.length l = 0
  · have HM : Hid (∀ w1 B aao ac, Below w.heap.size w w1 → WholeAt w1 (.slice oo l.length oc) B (.slice aao (aheadL l).length ac) l → ∀ o, Calls Tryd.prog 37 #[.agg #[.slice oo l.length oc, .slice (some ⟨B, 0, none⟩) l.length l.length, .slice aao (aheadL l).length ac], .slice lo letter.length lc, .int .i64 claim] (w1.alloc o) fun e w' => ∃ ro rn rc, e = .returned (.tuple #[.slice ro rn rc, .int .i64 (tcode l letter claim)]) ∧ Below w1.heap.size w1 w' ∧ Hid (BoolsV w' (.slice ro rn rc) (truL l letter claim))) := fun w1 B aao ac hb hW o => by
      have hA : Below w1.heap.size w1 (w1.alloc o) := (Below.refl _ _).alloc (Nat.le_refl _) o
      refine (meth_any _ B _ _ l letter claim (w1.alloc o) hc (hW.below hA) ((hL.below hb).below hA)).mono fun e w' ⟨h1, h2, h3⟩ => ?_
      have h1' := hA.trans (h1.mono hA.size)
      by_cases hn : ClaimNo l claim
      · exact ⟨none, 0, 0, by rw [tcode_no hc hn]; exact h2 hn, h1', by show BoolsV _ _ _; unfold truL; rw [tcode_no hc hn]; exact ⟨none, 0, rfl, fun h => absurd rfl h⟩⟩
      · obtain ⟨bH, he, hr⟩ := h3 hn
        exact ⟨_, _, _, by rw [tcode_ok hc hn]; exact he, h1', by show BoolsV _ _ _; unfold truL; rw [tcode_ok hc hn]; exact boolsV_tru hr⟩
    have hrd2 : Calls Tryd.prog 33 #[.slice oo l.length oc, .int .i64 (letter.length : Int)] w fun e w' => Below w.heap.size w w' ∧ ∃ B aao ac, e = .returned (.tuple #[.agg #[.slice oo l.length oc, .slice (some ⟨B, 0, none⟩) l.length l.length, .slice aao (aheadL l).length ac], .int .i64 0]) ∧ Hid (WholeAt w' (.slice oo l.length oc) B (.slice aao (aheadL l).length ac) l) := hrd.mono fun e w' ⟨h1, _, h3⟩ => ⟨h1, h3 hc⟩
    generalize tcode l letter claim = x at *
    generalize truL l letter claim = res at *
    generalize (aheadL l).length = an at *
    generalize letter.length = ln at *
    generalize l.length = n at *
    clear hrd hT hV hL hl hc
    go_enter Tryd.func23, Tryd.ntmps23
    go_wp2_with (first | (go_at_call 33; refine hrd2.mono ?_; rintro e w1 ⟨hb1, B, aao, ac, rfl, HW⟩; have hme := HM.out w1 B aao ac hb1 HW.out) | (go_at_call 37; refine (hme _).mono ?_; rintro e w2 ⟨ro, rn, rc, rfl, hb2, HR⟩))
    go_ret2
    exact ⟨_, rfl, hb1.trans (hb2.mono hb1.size), HR.out⟩
  · have hrd2 : Calls Tryd.prog 33 #[.slice oo l.length oc, .int .i64 (letter.length : Int)] w fun e w' => Below w.heap.size w w' ∧ e = .returned (.tuple #[.agg #[.slice none 0 0, .slice none 0 0, .slice none 0 0], .int .i64 (lcode letter.length l)]) := hrd.mono fun e w' ⟨h1, h2, _⟩ => ⟨h1, h2 hc⟩
    have HX : Hid (tcode l letter claim = lcode letter.length l ∧ truL l letter claim = []) := ⟨tcode_bad hc, by unfold truL; rw [if_neg (by rw [tcode_bad hc]; exact hc)]⟩
    rw [HX.out.1, HX.out.2]
    generalize lcode letter.length l = x at *
    generalize letter.length = ln at *
    generalize l.length = n at *
    clear hrd hT hV hL hl HX
    go_enter Tryd.func23, Tryd.ntmps23
    go_wp2_with (go_at_call 33; refine hrd2.mono ?_; rintro e w1 ⟨hb1, rfl⟩)
    go_ret2
    exact ⟨_, rfl, by first | exact hb1 | exact hb1.alloc hb1.size _, none, 0, rfl, fun h => absurd rfl h⟩
end Go.Proofs.YtcddocjpdlacaaaDoor

/-
  Where runs begin that do not keep the formula: the contracts of the survey's begin and of product.Begin.
-/
namespace Go.Proofs.YtcddocjpdlacaaaDoor
open Go.ChangeShapes Go.WideShapes Go.ChangeAt Go.RowKit Go.Deep
open Terms Tm

/-- the first state. -/
def begC (m : Mo) : Int := codeTo m.vars (initsL m.vars) m.vars.length
/-- the spots of the first claims. -/
noncomputable def begTo (m : Mo) (ps : List (List (Int × Int))) (l : List (Int × Int)) : Nat → List (Int × Int)
  | 0 => []
  | k + 1 => if tru l (letL m ps (begC m)) (k : Int) 0 = true then begTo m ps l k else begTo m ps l k ++ [(begC m, (k : Int))]
noncomputable def begL (m : Mo) (ps : List (List (Int × Int))) (l : List (Int × Int)) : List (Int × Int) := begTo m ps l (2 ^ (aheadL l).length)
set_option maxRecDepth 20000 in
theorem begTo_len (m : Mo) (ps : List (List (Int × Int))) (l : List (Int × Int)) : ∀ k, (begTo m ps l k).length ≤ k
  | 0 => Nat.le_refl _
  | k + 1 => by
    rw [begTo]
    have := begTo_len m ps l k
    split
    · omega
    · rw [List.length_append, List.length_singleton]; omega
set_option maxRecDepth 20000 in
theorem begL_len {m : Mo} {ps : List (List (Int × Int))} {l : List (Int × Int)} (h : tkcode m ps l = 0) : (begL m ps l).length ≤ 64 := by
  have h6 := (lcode_zero (tk_zero h).2).2.2.2.2
  have := begTo_len m ps l (2 ^ (aheadL l).length)
  have h2 : 2 ^ (aheadL l).length ≤ 2 ^ 6 := Nat.pow_le_pow_right (by decide) h6
  unfold begL
  omega
set_option maxRecDepth 20000 in
/-- the letter of a state of a right task. -/
theorem tk_let {m : Mo} {ps : List (List (Int × Int))} {l : List (Int × Int)} (h : tkcode m ps l = 0) {c : Int} (hc : 0 ≤ c ∧ c < prodTo m.vars m.vars.length) : letC m ps c = 0 ∧ (letL m ps c).length = ps.length := by
  obtain ⟨hp, _⟩ := tk_zero h
  obtain ⟨hm, _⟩ := pcode_m hp
  have h1 : letC m ps c = 0 := by unfold letC; rw [if_pos hp, wcode_yes hm hc]
  refine ⟨h1, ?_⟩
  unfold letL
  rw [if_pos h1, List.length_map]
set_option maxRecDepth 20000 in
theorem tk_beg {m : Mo} {ps : List (List (Int × Int))} {l : List (Int × Int)} (h : tkcode m ps l = 0) : 0 ≤ begC m ∧ begC m < prodTo m.vars m.vars.length := by
  obtain ⟨hp, _⟩ := tk_zero h
  obtain ⟨hm, _⟩ := pcode_m hp
  exact code_bounds (mcode_vars hm) (Nat.le_refl _) (fun i hi => inits_in (mcode_vars hm) i hi)
set_option maxRecDepth 20000 in
/-- the truths of a state and a claim. -/
theorem tk_tru {m : Mo} {ps : List (List (Int × Int))} {l : List (Int × Int)} (h : tkcode m ps l = 0) {c : Int} (hc : 0 ≤ c ∧ c < prodTo m.vars m.vars.length) {k : Nat} (hk : k < 2 ^ (aheadL l).length) :
    tcode l (letL m ps c) (k : Int) = 0 ∧ truL l (letL m ps c) (k : Int) = (List.range l.length).map (tru l (letL m ps c) (k : Int)) := by
  have h1 := (tk_let h hc).2
  have h2 : tcode l (letL m ps c) (k : Int) = 0 := by
    refine tcode_ok (by rw [h1]; exact (tk_zero h).2) fun hn => ?_
    unfold ClaimNo at hn
    have : ((2 ^ (aheadL l).length : Nat) : Int) = (2 : Int) ^ (aheadL l).length := by push_cast; rfl
    rcases hn with hn | hn
    · omega
    · rw [← this] at hn; omega
  exact ⟨h2, by unfold truL; rw [if_pos h2]⟩
set_option maxRecDepth 20000 in
theorem tk_ne {m : Mo} {ps : List (List (Int × Int))} {l : List (Int × Int)} (h : tkcode m ps l = 0) : 0 < l.length := by
  obtain ⟨_, _, hz, _, _⟩ := lcode_zero (tk_zero h).2
  have := (ends_ne hz).1
  rcases Nat.eq_zero_or_pos l.length with h0 | h0
  · rw [List.length_eq_zero_iff.1 h0] at this
    simp at this
  · exact h0

set_option maxHeartbeats 3200000 in
set_option maxRecDepth 20000 in
/-- THE CONTRACT OF the survey's begin. -/
theorem begin_any (B : Nat) (va vr pv fv : Value) (m : Mo) (ps : List (List (Int × Int))) (l : List (Int × Int)) (ho : Option Addr) (hcp bs bl : Nat) (w : World) (hB : 0 < w.heap.size) (hT : TabAt w) (hV : TaskV w va vr pv fv m ps l) (hc : tkcode m ps l = 0)
    (hS : SurvAt w B va vr pv fv (.slice ho (aheadL l).length hcp) bs bl) :
    Calls Tryd.prog 12 #[.pointer (some ⟨B, 0, none⟩)] w fun e w' => ∃ so sc, e = .returned (.tuple #[.slice so (begL m ps l).length sc, .int .i64 0]) ∧ Below w.heap.size w w' ∧ Hid (SpO w' w.heap.size (.slice so (begL m ps l).length sc) (begL m ps l)) := by
  obtain ⟨hp0, hl0⟩ := tk_zero hc
  obtain ⟨hm0, _⟩ := pcode_m hp0
  have h6 := (lcode_zero hl0).2.2.2.2
  have hne := tk_ne hc
  have hnei : (0 : Int) < (l.length : Int) := by omega
  obtain ⟨ao, ac, rfl⟩ := hV.mo.1.shape
  obtain ⟨ro, rc, rfl⟩ := hV.mo.2.shape
  obtain ⟨po, pc, rfl⟩ := hV.ps.shape
  obtain ⟨fo, fc, rfl, _⟩ := id hV.fo
  have hfi : Calls Tryd.prog 7 #[.agg #[.slice ao m.vars.length ac, .slice ro m.rules.length rc]] w fun e w' => e = .returned (.tuple #[.int .i64 (begC m), .int .i64 0]) ∧ Below w.heap.size w w' := by
    have := mfirst_any _ _ m w hB hT hV.mo
    rw [if_pos hm0, hm0] at this
    exact this
  have HLe : Hid (∀ w1, Below w.heap.size w w1 → Calls Tryd.prog 21 #[.agg #[.slice ao m.vars.length ac, .slice ro m.rules.length rc], .slice po ps.length pc, .int .i64 (begC m)] w1 fun e w' => ∃ lo lc, e = .returned (.tuple #[.slice lo ps.length lc, .int .i64 0]) ∧ Below w1.heap.size w1 w' ∧ Hid (BoolsV w' (.slice lo ps.length lc) (letL m ps (begC m)))) := fun w1 h => by
    refine (letter_any _ _ _ m ps (begC m) w1 (Nat.lt_of_lt_of_le hB h.size) (hT.below h hB) (hV.mo.below h) (hV.ps.below h)).mono fun e w' ⟨v, h1, h2, h3⟩ => ?_
    obtain ⟨t1, t2⟩ := tk_let hc (tk_beg hc)
    obtain ⟨lo, lc, rfl, hx⟩ := h3
    rw [t2] at h1
    exact ⟨lo, lc, by rw [h1, t1], h2, ⟨lo, lc, by rw [t2], hx⟩⟩
  have HTr : Hid (∀ (k : Nat) (lv : Value) (w1 : World), k < 2 ^ (aheadL l).length → Below w.heap.size w w1 → BoolsV w1 lv (letL m ps (begC m)) → Calls Tryd.prog 23 #[.slice fo l.length fc, lv, .int .i64 (k : Int)] w1 fun e w' => ∃ b off c, e = .returned (.tuple #[.slice (some ⟨b, off, none⟩) l.length c, .int .i64 0]) ∧ Below w1.heap.size w1 w' ∧ w'.cell? ⟨b, off, none⟩ = some (.bool (tru l (letL m ps (begC m)) (k : Int) 0))) := fun k lv w1 hk h hl => by
    refine (ltruths_any _ lv l (letL m ps (begC m)) (k : Int) w1 (Nat.lt_of_lt_of_le hB h.size) (hT.below h hB) (hV.fo.below h) hl).mono fun e w' ⟨v, h1, h2, h3⟩ => ?_
    obtain ⟨t1, t2⟩ := tk_tru hc (tk_beg hc) hk
    rw [t2] at h3
    have hn := tk_ne hc
    obtain ⟨lo, lc, rfl, hx⟩ := h3
    obtain ⟨b, off, rfl, _, hat⟩ := hx (by intro h0; have := congrArg List.length h0; rw [List.length_map, List.length_range, List.length_nil] at this; omega)
    have c0 := hat 0 (by simpa using hn)
    refine ⟨b, off, lc, by rw [h1, t1]; simp, h2, ?_⟩
    rw [Nat.add_zero] at c0
    rw [c0]
    simp [List.getD_eq_getElem?_getD, hn]
  have HS : Hid (∀ w1, Below w.heap.size w w1 → SurvAt w1 B (.slice ao m.vars.length ac) (.slice ro m.rules.length rc) (.slice po ps.length pc) (.slice fo l.length fc) (.slice ho (aheadL l).length hcp) bs bl) := fun w1 h => hS.later h
  have hcl := fun w1 (h : Below w.heap.size w w1) => claims_any B _ _ _ _ ho _ hcp bs bl w1 h6 (hS.later h)
  have HCl : Hid (∀ w1, Below w.heap.size w w1 → Calls Tryd.prog 22 #[.pointer (some ⟨B, 0, none⟩)] w1 fun e w' => e = .returned (.int .i64 ((2 ^ (aheadL l).length : Nat) : Int)) ∧ w' = w1) := hcl
  obtain ⟨_, s0, s1, s2, s3, s4, s5, s6⟩ := id hS
  have hq64 : 2 ^ (aheadL l).length ≤ 64 := Nat.pow_le_pow_right (show 0 < 2 by decide) h6
  have HNil : Hid (begTo m ps l 0 = []) := rfl
  have HSt : Hid (∀ k, begTo m ps l (k + 1) = if tru l (letL m ps (begC m)) (k : Int) 0 = true then begTo m ps l k else begTo m ps l k ++ [(begC m, (k : Int))]) := fun k => rfl
  have HLen : Hid (∀ k, (begTo m ps l k).length ≤ k) := begTo_len m ps l
  unfold begL
  generalize begTo m ps l = bg at *
  generalize letL m ps (begC m) = lt at *
  generalize begC m = first at *
  generalize m.vars.length = vn at *
  generalize m.rules.length = rn at *
  generalize ps.length = pn at *
  generalize (aheadL l).length = an at *
  generalize 2 ^ an = N at *
  have HTru : Hid (∀ k : Nat, tru l lt (k : Int) 0 = true ∨ tru l lt (k : Int) 0 = false) := fun k => by cases tru l lt (k : Int) 0 <;> simp
  generalize hfn : l.length = fn at *
  clear hV hT hc hl0 hp0 hm0 hS hcl h6 hfn
  go_enter Tryd.func12, Tryd.ntmps12
  go_wp2_with (first | (go_at_call 7; refine hfi.mono ?_; rintro e w1 ⟨rfl, hb1⟩; obtain ⟨_, p0, p1, p2, p3, p4, p5, p6⟩ := HS.out w1 hb1; have hle := HLe.out _ hb1.drew))
  have HSB : Hid (∀ w2, Below w1.heap.size w1 w2 → w2.cell? ⟨B, 0, none⟩ = some (.slice ao vn ac) ∧ w2.cell? ⟨B, 1, none⟩ = some (.slice ro rn rc) ∧ w2.cell? ⟨B, 2, none⟩ = some (.slice po pn pc)) := fun w2 h => by
    obtain ⟨_, q0, q1, q2, _, _, _, _⟩ := HS.out w2 (hb1.trans (h.mono hb1.size))
    exact ⟨q0, q1, q2⟩
  have hB0 : Below w1.heap.size w1 w1 := Below.refl _ _
  have hBw := hB0.drew
  go_region_held3 (fun w' => w'.cell? ⟨B, 0, none⟩ = some (.slice ao vn ac) ∧ w'.cell? ⟨B, 1, none⟩ = some (.slice ro rn rc) ∧ w'.cell? ⟨B, 2, none⟩ = some (.slice po pn pc))
    (first | exact HSB.out _ hb12 | exact HSB.out _ hBw | exact HSB.out _ hB0)
    (first
      | (go_at_call 21; refine hle.mono ?_; rintro e w2 ⟨lo, lc, rfl, hb2, HLv⟩; have hb12 := hBw.trans (hb2.mono hBw.size)))
  have hw2 := hb1.trans (hb12.mono hb1.size)
  have hcl := HCl.out w2 hw2
  clear hle hfi HLe HSB p0 p1 p2 p3 p4 p5 p6 s0 s1 s2 s3 s4 s5 s6
  have HLet : Hid (∀ w3, Below w2.heap.size w2 w3 → BoolsV w3 (.slice lo pn lc) lt) := fun w3 h => HLv.out.below h
  go_wp2_with (first | (go_at_call 22; refine hcl.mono ?_; rintro e w3 ⟨rfl, rfl⟩))
  go_loopw [7, 43] (fun u i wr => ∃ k : Nat, k ≤ N ∧ i = .int .i64 k ∧ (∃ so sn sc, u = .slice so sn sc ∧ sn ≤ k ∧ Hid ((bg k).length = sn ∧ SpO wr w3.heap.size (.slice so sn sc) (bg k))) ∧ Below w3.heap.size w3 wr) (fun _ i _ => N - (intOf i).toNat)
  case atStart => exact ⟨0, Nat.zero_le _, rfl, ⟨none, 0, 0, rfl, Nat.le_refl _, by rw [HNil.out]; rfl, by rw [HNil.out]; exact SpO.nil _ _⟩, Below.refl _ _⟩
  case round =>
    obtain ⟨k, hk, rfl, ⟨so, sn, sc, rfl, hsn, HSp⟩, hbr3⟩ := hrel
    have hbr := hw2.trans (hbr3.mono hw2.size)
    have HBo := (show Hid _ from HLet.out wr hbr3)
    obtain ⟨_, p0, p1, p2, p3, p4, p5, p6⟩ := HS.out wr hbr
    by_cases hkN : k < N
    · have htr := HTr.out k _ wr hkN hbr HBo.out
      have hst := HSt.out k
      have HSk : Hid (∀ w4, Below wr.heap.size wr w4 → SpO w4 w3.heap.size (.slice so sn sc) (bg k)) := fun w4 h => HSp.out.2.later h (Nat.le_refl _)
      have HSl : Hid ((bg k).length = sn) := HSp.out.1
      rcases HTru.out k with ht | ht
      · rw [ht] at htr hst
        rw [if_pos rfl] at hst
        have HE : Hid (bg (k + 1) = bg k) := hst
        clear hst ht HBo HSp
        go_wp2_with (first | (go_at_call 23; refine htr.mono ?_; rintro e w4 ⟨b, off, c, rfl, hb4, d0⟩; have hbw4 := hbr3.trans (hb4.mono hbr3.size)))
        go_roundw
        case rel => exact ⟨k + 1, by omega, by go_num, ⟨so, sn, sc, rfl, by omega, by rw [HE.out]; exact HSl.out, by rw [HE.out]; exact HSk.out _ hb4⟩, hbw4⟩
        case measure => simp [intOf]; omega
      · rw [ht] at htr hst
        rw [if_neg (by simp)] at hst
        have HE : Hid (bg (k + 1) = bg k ++ [(first, (k : Int))]) := hst
        have hsz : w.heap.size ≤ wr.heap.size := hbr.size
        clear hst ht HBo HSp
        go_wp2_with (first | (go_at_call 23; refine htr.mono ?_; rintro e w4 ⟨b, off, c, rfl, hb4, d0⟩; have hbw4 := hbr3.trans (hb4.mono hbr3.size); have hsp := HSk.out _ hb4; have hs4 := hbw4.size) | (at_builtin; refine push_sp first (k : Int) rfl _ _ rfl w3.heap.size sn sc so (bg k) HSl.out rfl hsp rfl (by omega) hs4 ?_; intro vo5 cap5 w5 ho5 hb5 hg5; have HO5 : Hid (SpO w5 w3.heap.size (.slice vo5 (sn + 1) cap5) (bg k ++ [(first, (k : Int))])) := ho5; have hbw5 := hbw4.trans hb5; clear ho5 hg5 hsp))
        go_roundw
        case rel => exact ⟨k + 1, by omega, by go_num, ⟨vo5, sn + 1, cap5, rfl, by omega, by rw [HE.out, List.length_append, HSl.out]; rfl, by rw [HE.out]; exact HO5.out⟩, hbw5⟩
        case measure => simp [intOf]; omega
    · obtain rfl : k = N := by omega
      have HSl : Hid ((bg k).length = sn) := HSp.out.1
      have HSk : Hid (SpO wr w.heap.size (.slice so sn sc) (bg k)) := owns_mono HSp.out.2 hw2.size
      clear HSp HBo
      go_wp2_with fail
      go_ret2
      refine ⟨so, sc, by rw [HSl.out]; rfl, hbr, by rw [HSl.out]; exact HSk.out⟩

/-- what Begin answers. -/
noncomputable def begR (m : Mo) (ps : List (List (Int × Int))) (l : List (Int × Int)) : List (Int × Int) := by classical exact if tkcode m ps l = 0 then begL m ps l else []
set_option maxRecDepth 20000 in
theorem begR_ok {m : Mo} {ps : List (List (Int × Int))} {l : List (Int × Int)} (h : tkcode m ps l = 0) : begR m ps l = begL m ps l := by unfold begR; rw [if_pos h]
set_option maxRecDepth 20000 in
theorem begR_bad {m : Mo} {ps : List (List (Int × Int))} {l : List (Int × Int)} (h : tkcode m ps l ≠ 0) : begR m ps l = [] := by unfold begR; rw [if_neg h]
set_option maxRecDepth 20000 in
theorem begR_len (m : Mo) (ps : List (List (Int × Int))) (l : List (Int × Int)) : (begR m ps l).length ≤ 64 := by
  by_cases h : tkcode m ps l = 0
  · rw [begR_ok h]; exact begL_len h
  · rw [begR_bad h]; simp
def BegPost (w : World) (m : Mo) (ps : List (List (Int × Int))) (l : List (Int × Int)) (e : Ending) (w' : World) : Prop := ∃ so sc, e = .returned (.tuple #[.slice so (begR m ps l).length sc, .int .i64 (tkcode m ps l)]) ∧ Below w.heap.size w w' ∧ Hid (SpO w' w.heap.size (.slice so (begR m ps l).length sc) (begR m ps l))

set_option maxHeartbeats 800000 in
set_option maxRecDepth 20000 in
/-- THE CONTRACT OF product.Begin. -/
theorem pbegin_any (va vr pv fv : Value) (m : Mo) (ps : List (List (Int × Int))) (l : List (Int × Int)) (w : World) (hB : 0 < w.heap.size) (hT : TabAt w) (hV : TaskV w va vr pv fv m ps l) :
    Calls Tryd.prog 6 #[.agg #[va, vr, pv, fv]] w (BegPost w m ps l) := by
  have hA : ∀ o, Below w.heap.size w (w.alloc o) := fun o => (Below.refl _ _).alloc (Nat.le_refl _) o
  obtain ⟨ao, ac, rfl⟩ := hV.mo.1.shape
  obtain ⟨ro, rc, rfl⟩ := hV.mo.2.shape
  obtain ⟨po, pc, rfl⟩ := hV.ps.shape
  obtain ⟨fo, fc, rfl, _⟩ := id hV.fo
  unfold BegPost
  by_cases hc : tkcode m ps l = 0
  · have hsv := surveyOf_ok _ _ _ _ m ps l _ (Nat.lt_of_lt_of_le hB (hA (.cells #[.slice ao m.vars.length ac, .slice ro m.rules.length rc, .slice po ps.length pc, .slice fo l.length fc] 34)).size) (hT.below (hA _) hB) (hV.below (hA _)) hc
    have HBe : Hid (∀ (w1 : World) (B bs bl : Nat) (ho : Option Addr) (hcp : Nat), Below w.heap.size w w1 → SurvAt w1 B (.slice ao m.vars.length ac) (.slice ro m.rules.length rc) (.slice po ps.length pc) (.slice fo l.length fc) (.slice ho (aheadL l).length hcp) bs bl → Calls Tryd.prog 12 #[.pointer (some ⟨B, 0, none⟩)] w1 fun e w' => ∃ so sc, e = .returned (.tuple #[.slice so (begL m ps l).length sc, .int .i64 0]) ∧ Below w1.heap.size w1 w' ∧ Hid (SpO w' w1.heap.size (.slice so (begL m ps l).length sc) (begL m ps l))) := fun w1 B bs bl ho hcp h hs => begin_any B _ _ _ _ m ps l ho hcp bs bl w1 (Nat.lt_of_lt_of_le hB h.size) (hT.below h hB) (hV.below h) hc hs
    rw [begR_ok hc, hc]
    unfold SurvPost at hsv
    generalize begL m ps l = bg at *
    generalize (aheadL l).length = an at *
    generalize m.vars.length = vn at *
    generalize m.rules.length = rn at *
    generalize ps.length = pn at *
    generalize l.length = fn at *
    generalize bg.length = bn at *
    clear hV hT hc
    go_enter Tryd.func6, Tryd.ntmps6
    go_wp2_with (first | (go_at_call 11; refine hsv.mono ?_; rintro e w1 ⟨n, ho, hcp, rfl, hb1, _, _, HS, _, _⟩; have hbw := (hA _).trans (hb1.mono (hA _).size); have hbe := HBe.out w1 _ _ _ _ _ hbw HS.out) | (go_at_call 12; refine hbe.mono ?_; rintro e w2 ⟨so, sc, rfl, hb2, HO⟩))
    go_ret2
    exact ⟨so, sc, rfl, hbw.trans (hb2.mono hbw.size), owns_mono HO.out hbw.size⟩
  · have hsv := surveyOf_bad _ _ _ _ m ps l _ (Nat.lt_of_lt_of_le hB (hA (.cells #[.slice ao m.vars.length ac, .slice ro m.rules.length rc, .slice po ps.length pc, .slice fo l.length fc] 34)).size) (hT.below (hA _) hB) (hV.below (hA _)) hc
    rw [begR_bad hc]
    generalize tkcode m ps l = c at *
    generalize m.vars.length = vn at *
    generalize m.rules.length = rn at *
    generalize ps.length = pn at *
    generalize l.length = fn at *
    clear hV hT
    go_enter Tryd.func6, Tryd.ntmps6
    go_wp2_with (first | (go_at_call 11; refine hsv.mono ?_; rintro e w1 ⟨rfl, hb1⟩; have hbw := (hA _).trans (hb1.mono (hA _).size)))
    go_ret2
    exact ⟨none, 0, rfl, hbw, SpO.nil _ _⟩
end Go.Proofs.YtcddocjpdlacaaaDoor

/-
  The keeping laws' own Task: a right task.
-/
namespace Go.Proofs.YtcddocjpdlacaaaDoor
open Go.ChangeShapes Go.WideShapes Go.ChangeAt Go.RowKit Go.Deep
open Terms Tm

set_option maxRecDepth 20000 in
theorem rcode_guard {r : Ru} (h : rcode 2 r = 0) : r.guard ≠ [] := by
  intro e
  have hx : ∀ t, xcode 2 [] t ≠ 0 := fun t => by
    unfold xcode
    rw [if_neg (by decide)]
    have : endsCode (([] : List (Int × Int)).map Prod.fst) ≠ 0 := fun h0 => (ends_ne h0).1 rfl
    rw [if_pos this]
    exact this
  unfold rcode at h
  rw [e] at h
  have hk : kcode 2 [] true ≠ 0 := by
    unfold kcode
    rw [if_neg (hx _)]
    exact hx _
  split at h
  · exact absurd h (by decide)
  · exact hk h
/-- w' is w but for a block that held nothing but nil slices. -/
structure NilTo (g : Nat) (w w' : World) : Prop where
  size : w.heap.size ≤ w'.heap.size
  nil : ∀ i v, w.cell? ⟨g, i, none⟩ = some v → v = .slice none 0 0
  block : ∀ b, b ≠ g → w'.heap[b]? = w.heap[b]?
set_option maxRecDepth 20000 in
theorem NilTo.ne {g : Nat} {w w' : World} (h : NilTo g w w') {b i : Nat} {v : Value} (hc : w.cell? ⟨b, i, none⟩ = some v) (hv : v ≠ .slice none 0 0) : b ≠ g := by
  rintro rfl
  exact hv (h.nil i v hc)
set_option maxRecDepth 20000 in
theorem NilTo.cell {g : Nat} {w w' : World} (h : NilTo g w w') {b : Nat} (hb : b ≠ g) (i : Nat) : w'.cell? ⟨b, i, none⟩ = w.cell? ⟨b, i, none⟩ := World.cell?_of_block (h.block b hb)
set_option maxRecDepth 20000 in
theorem OpsV.nilTo {g : Nat} {w w' : World} {v : Value} {l : List (Int × Int)} (h : OpsV w v l) (hn : NilTo g w w') : OpsV w' v l := by
  obtain ⟨ao, cap, rfl, h0, h⟩ := h
  refine ⟨ao, cap, rfl, h0, fun hne => ?_⟩
  obtain ⟨b, off, rfl, hlt, hat⟩ := h hne
  refine ⟨b, off, rfl, Nat.lt_of_lt_of_le hlt hn.size, fun i hi => ?_⟩
  have hb := hn.ne (hat i hi).1 (by simp)
  exact ⟨(hn.cell hb _).trans (hat i hi).1, (hn.cell hb _).trans (hat i hi).2⟩
set_option maxRecDepth 20000 in
theorem VarsV.nilTo {g : Nat} {w w' : World} {v : Value} {l : List Vr} (h : VarsV w v l) (hn : NilTo g w w') : VarsV w' v l := SlV.imp h hn.size fun b off i _ _ hi => by
  obtain ⟨h1, h2, h3, h4⟩ := hi
  have hb := hn.ne h2 (by simp)
  exact ⟨(hn.cell hb _).trans h1, (hn.cell hb _).trans h2, (hn.cell hb _).trans h3, (hn.cell hb _).trans h4⟩
set_option maxRecDepth 20000 in
theorem SetsV.nilTo {g : Nat} {w w' : World} {v : Value} {l : List St} (h : SetsV w v l) (hn : NilTo g w w') : SetsV w' v l := SlV.imp h hn.size fun b off i _ _ hi => by
  obtain ⟨h1, u, h2, h3⟩ := hi
  have hb := hn.ne h1 (by simp)
  exact ⟨(hn.cell hb _).trans h1, u, (hn.cell hb _).trans h2, h3.nilTo hn⟩
set_option maxRecDepth 20000 in
theorem RulesV.nilTo {g : Nat} {w w' : World} {v : Value} {l : List Ru} (h : RulesV w v l) (hg : ∀ j, j < l.length → (l.getD j ru0).guard ≠ []) (hn : NilTo g w w') : RulesV w' v l := SlV.imp h hn.size fun b off i _ hi hx => by
  obtain ⟨⟨u, h1, h2⟩, u', h3, h4⟩ := hx
  have hb := hn.ne h1 (by
    obtain ⟨ao, cap, rfl, ⟨_, h0⟩, _⟩ := h2
    intro e
    injection e with e _ _
    exact hg i hi (h0 e).2)
  exact ⟨⟨u, (hn.cell hb _).trans h1, h2.nilTo hn⟩, u', (hn.cell hb _).trans h3, h4.nilTo hn⟩
set_option maxRecDepth 20000 in
theorem TermsV.nilTo {g : Nat} {w w' : World} {v : Value} {ts : List (List (Int × Int))} (h : TermsV w v ts) (hg : ∀ j, j < ts.length → ts.getD j [] ≠ []) (hn : NilTo g w w') : TermsV w' v ts := by
  obtain ⟨ao, cap, rfl, h⟩ := h
  refine ⟨ao, cap, rfl, fun hne => ?_⟩
  obtain ⟨b, off, rfl, hlt, hat⟩ := h hne
  refine ⟨b, off, rfl, Nat.lt_of_lt_of_le hlt hn.size, fun i hi => ?_⟩
  obtain ⟨u, h1, h2⟩ := hat i hi
  have hb := hn.ne h1 (by
    obtain ⟨ao, cap, rfl, ⟨_, h0⟩, _⟩ := h2
    intro e
    injection e with e _ _
    exact hg i hi (h0 e).2)
  exact ⟨u, (hn.cell hb _).trans h1, h2.nilTo hn⟩
/-- a task that was grown. -/
structure KTaskOk (m : Mo) (l : List (Int × Int)) (mm : Nat) : Prop where
  mo : mcode m = 0
  vars : m.vars.length = 2
  fo : ∃ T, FOk mm l T
  len : l.length ≤ 59
  many : mm ≤ 6
set_option maxRecDepth 20000 in
theorem KTaskOk.code {m : Mo} {l : List (Int × Int)} {mm : Nat} (h : KTaskOk m l mm) : tkcode m propsL l = 0 := by
  obtain ⟨T, hT⟩ := h.fo
  unfold tkcode
  rw [props_code h.mo h.vars, if_neg (by simp)]
  exact hT.code (by have := h.len; omega) h.many
set_option maxRecDepth 20000 in
theorem KTaskOk.not {m : Mo} {l : List (Int × Int)} {mm : Nat} (h : KTaskOk m l mm) (h2 : l.length ≤ 58) : KTaskOk m ((10, 0) :: l) mm := by
  obtain ⟨T, hT⟩ := h.fo
  exact ⟨h.mo, h.vars, ⟨_, hT.not⟩, by simp; omega, h.many⟩

set_option maxHeartbeats 1600000 in
set_option maxRecDepth 20000 in
/-- THE CONTRACT OF Task. -/
theorem taskFn_any (c0 c1 c2 c3 c4 c5 c6 : Value) (a b : Vr) (rawv : Value) (rs : List (Int × Int)) (tempo : Nat) (w : World) (hG : GV a b) (ht : tempo ≤ 6) (hR : Raws w w.heap.size rawv rs)
    (hmd : ∀ w', Below w.heap.size w w' → Calls Tryd.prog 8 #[.agg #[c0, c1, c2, c3, c4, c5, c6]] w' fun e w2 => ∃ va vr, e = .returned (.agg #[va, vr]) ∧ Below w'.heap.size w' w2 ∧ GModel w2 va vr [a, b]) :
    Calls Tryd.prog 4 #[.agg #[c0, c1, c2, c3, c4, c5, c6], rawv, .int .i64 (tempo : Int)] w fun e w' => ∃ ao ac ro rn rc pb fo fn fc m l mm, e = .returned (.agg #[.slice ao 2 ac, .slice ro rn rc, .slice (some ⟨pb, 0, none⟩) 3 3, .slice fo fn fc]) ∧ Below w.heap.size w w' ∧ Hid (TaskV w' (.slice ao 2 ac) (.slice ro rn rc) (.slice (some ⟨pb, 0, none⟩) 3 3) (.slice fo fn fc) m propsL l) ∧ Hid (KTaskOk m l mm ∧ m.vars = [a, b] ∧ l.length = fn ∧ l ≠ []) ∧ mm ≤ tempo ∧ fn ≤ 17 := by
  have HMd : Hid (∀ w', Below w.heap.size w w' → Calls Tryd.prog 8 #[.agg #[c0, c1, c2, c3, c4, c5, c6]] w' fun e w2 => ∃ ao ac ro rn rc m, e = .returned (.agg #[.slice ao 2 ac, .slice ro rn rc]) ∧ Below w'.heap.size w' w2 ∧ Hid (ModelV w2 (.slice ao 2 ac) (.slice ro rn rc) m ∧ mcode m = 0 ∧ m.vars = [a, b] ∧ ∀ j, j < m.rules.length → (m.rules.getD j ru0).guard ≠ [])) := fun w' h => (hmd w' h).mono fun e w2 ⟨va, vr, h1, h2, h3⟩ => by
    obtain ⟨ao, ac, ro, rn, rc, rfl, rfl, _⟩ := h3.shape
    obtain ⟨rules, g1, g2, g3⟩ := h3
    exact ⟨ao, ac, ro, rn, rc, _, h1, h2, g1, hG.mcode (by omega) g3, rfl, fun j hj => rcode_guard (g3 j hj)⟩
  have HPr : Hid (∀ w', Calls Tryd.prog 9 #[] w' fun e w2 => ∃ pb, e = .returned (.slice (some ⟨pb, 0, none⟩) 3 3) ∧ Below w'.heap.size w' w2 ∧ Hid (TermsV w2 (.slice (some ⟨pb, 0, none⟩) 3 3) propsL)) := fun w' => (propsFn_any w').mono fun e w2 ⟨pb, h1, h2, h3⟩ => ⟨pb, h1, h2, h3⟩
  have HFo : Hid (∀ w', Below w.heap.size w w' → Calls Tryd.prog 10 #[rawv, .int .i64 3, .int .i64 (tempo : Int)] w' fun e w2 => ∃ fo fn fc l mm, e = .returned (.slice fo fn fc) ∧ mm ≤ tempo ∧ fn ≤ 17 ∧ Below w'.heap.size w' w2 ∧ Hid (OpsV w2 (.slice fo fn fc) l ∧ (∃ T, FOk mm l T) ∧ l.length = fn ∧ l ≠ [])) := fun w' h => (formulaFn_any rawv rs 3 tempo w' (by decide) (by decide) (by omega) (hR.up h)).mono fun e w2 ⟨fo, fc, l, mm, h1, h2, h3, h4, h5, h6⟩ => ⟨fo, l.length, fc, l, mm, h1, h3, h4, h6, h5, h2.ok, rfl, h2.ne⟩
  obtain ⟨ra, rn0, rc0, hra⟩ : ∃ a n c, rawv = .slice a n c := by obtain ⟨⟨a, c, h, _⟩, _, _⟩ := hR; exact ⟨_, _, _, h⟩
  subst hra
  clear hmd hR
  obtain ⟨W1, hW1⟩ : ∃ W1, W1 = (w.alloc (.cells #[c0, c1, c2, c3, c4, c5, c6] 25)).alloc (.cells #[.slice none 0 0, .slice none 0 0, .slice none 0 0, .slice none 0 0] 34) := ⟨_, rfl⟩
  have hb1 : Below w.heap.size w W1 := by rw [hW1]; exact ((Below.refl _ _).alloc (Nat.le_refl _) _).alloc (by simp) _
  have hmo := HMd.out W1 hb1
  have HBx : Hid (∀ w', Below (w.heap.size + 2) W1 w' → (w'.cell? ⟨w.heap.size + 1, 0, none⟩ = some (.slice none 0 0) ∧ w'.cell? ⟨w.heap.size + 1, 1, none⟩ = some (.slice none 0 0) ∧ w'.cell? ⟨w.heap.size + 1, 2, none⟩ = some (.slice none 0 0) ∧ w'.cell? ⟨w.heap.size + 1, 3, none⟩ = some (.slice none 0 0)) ∧ (w'.frozen? ⟨w.heap.size + 1, 0, none⟩ = false ∧ w'.frozen? ⟨w.heap.size + 1, 1, none⟩ = false ∧ w'.frozen? ⟨w.heap.size + 1, 2, none⟩ = false ∧ w'.frozen? ⟨w.heap.size + 1, 3, none⟩ = false)) := fun w' h => by
    have hlt : w.heap.size + 1 < w.heap.size + 2 := by omega
    refine ⟨⟨?_, ?_, ?_, ?_⟩, ?_, ?_, ?_, ?_⟩
    · exact (h.cell (p := ⟨w.heap.size + 1, 0, none⟩) hlt).trans (by rw [hW1]; simp [go_sem])
    · exact (h.cell (p := ⟨w.heap.size + 1, 1, none⟩) hlt).trans (by rw [hW1]; simp [go_sem])
    · exact (h.cell (p := ⟨w.heap.size + 1, 2, none⟩) hlt).trans (by rw [hW1]; simp [go_sem])
    · exact (h.cell (p := ⟨w.heap.size + 1, 3, none⟩) hlt).trans (by rw [hW1]; simp [go_sem])
    · exact (h.frozen (p := ⟨w.heap.size + 1, 0, none⟩) hlt).trans (by rw [hW1]; simp [go_sem])
    · exact (h.frozen (p := ⟨w.heap.size + 1, 1, none⟩) hlt).trans (by rw [hW1]; simp [go_sem])
    · exact (h.frozen (p := ⟨w.heap.size + 1, 2, none⟩) hlt).trans (by rw [hW1]; simp [go_sem])
    · exact (h.frozen (p := ⟨w.heap.size + 1, 3, none⟩) hlt).trans (by rw [hW1]; simp [go_sem])
  have hz1 : W1.heap.size = w.heap.size + 2 := by rw [hW1]; simp
  subst hW1
  go_enter Tryd.func4, Tryd.ntmps4
  go_wp2_with (first
    | (go_at_call 8; refine hmo.mono ?_; rintro e w2 ⟨ao, ac, ro, rn, rc, m, rfl, hb2, HM⟩; have hbw2 := hb1.trans (hb2.mono hb1.size); have hpr := HPr.out w2)
    | (go_at_call 9; refine hpr.mono ?_; rintro e w3 ⟨pb, rfl, hb3, HP⟩; have hbw3 := hbw2.trans (hb3.mono hbw2.size); have hfo := HFo.out w3 hbw3)
    | (go_at_call 10; refine hfo.mono ?_; rintro e w4 ⟨fo, fn, fc, l, mm, rfl, hmm, hfn, hb4, HF⟩; have hbw4 := hbw3.trans (hb4.mono hbw3.size); have hb24 := (hb2.trans (hb3.mono hb2.size)).trans (hb4.mono (Nat.le_trans hb2.size hb3.size)); obtain ⟨⟨k0, k1, k2, k3⟩, g0, g1, g2, g3⟩ := HBx.out w4 (hb24.mono (by omega))))
  have hn : NilTo (w.heap.size + 1) w4 ((((w4.setCell ⟨w.heap.size + 1, 0, none⟩ (.slice ao 2 ac)).setCell ⟨w.heap.size + 1, 1, none⟩ (.slice ro rn rc)).setCell ⟨w.heap.size + 1, 2, none⟩ (.slice (some ⟨pb, 0, none⟩) 3 3)).setCell ⟨w.heap.size + 1, 3, none⟩ (.slice fo fn fc)) := by
    refine ⟨by simp, fun i v hv => ?_, fun b hb => ?_⟩
    · have hblk := (hb24.mono (show w.heap.size + 2 ≤ _ by omega)).block (w.heap.size + 1) (by omega)
      have hx : ((w.alloc (.cells #[c0, c1, c2, c3, c4, c5, c6] 25)).alloc (.cells #[.slice none 0 0, .slice none 0 0, .slice none 0 0, .slice none 0 0] 34)).cell? ⟨w.heap.size + 1, i, none⟩ = some v := by rw [← hv]; exact (World.cell?_of_block hblk).symm
      have hy := (MapKept.heap_alloc (w.alloc (.cells #[c0, c1, c2, c3, c4, c5, c6] 25)) (.cells #[.slice none 0 0, .slice none 0 0, .slice none 0 0, .slice none 0 0] 34)).1
      rw [World.size_alloc] at hy
      simp only [World.cell?, hy] at hx
      have hi : i < 4 := by
        rcases Nat.lt_or_ge i 4 with h | h
        · exact h
        · simp [Array.getElem?_eq_none (show (#[Value.slice none 0 0, .slice none 0 0, .slice none 0 0, .slice none 0 0] : Array Value).size ≤ i from h)] at hx
      rcases (show i = 0 ∨ i = 1 ∨ i = 2 ∨ i = 3 by omega) with rfl | rfl | rfl | rfl <;> simpa using hx.symm
    · rw [RowKit.Below.heap_setCell _ _ _ _ hb, RowKit.Below.heap_setCell _ _ _ _ hb, RowKit.Below.heap_setCell _ _ _ _ hb, RowKit.Below.heap_setCell _ _ _ _ hb]
  obtain ⟨m1, m2, m3, m4⟩ := HM.out
  obtain ⟨f1, f2, f3, f4⟩ := HF.out
  have hb34 : Below w2.heap.size w2 w4 := hb3.trans (hb4.mono hb3.size)
  refine bodyPost_ret (v := .agg #[.slice ao 2 ac, .slice ro rn rc, .slice (some ⟨pb, 0, none⟩) 3 3, .slice fo fn fc]) ?_ rfl ⟨ao, ac, ro, rn, rc, pb, fo, fn, fc, m, l, mm, rfl, (((hbw4.setCell (p := ⟨w.heap.size + 1, 0, none⟩) (by simp) _).setCell (p := ⟨w.heap.size + 1, 1, none⟩) (by simp) _).setCell (p := ⟨w.heap.size + 1, 2, none⟩) (by simp) _).setCell (p := ⟨w.heap.size + 1, 3, none⟩) (by simp) _, ⟨⟨(m1.1.below hb34).nilTo hn, (m1.2.below hb34).nilTo m4 hn⟩, (HP.out.below hb4).nilTo (fun j hj => ?_) hn, f1.nilTo hn⟩, ⟨⟨m2, by rw [m3]; rfl, f2, by omega, by omega⟩, m3, f3, f4⟩, hmm, hfn⟩
  · simp [results, Tryd.results4, go_sem, k0, k1, k2, k3]
  · have hj3 : j < 3 := hj
    rcases (show j = 0 ∨ j = 1 ∨ j = 2 by omega) with rfl | rfl | rfl <;> simp [propsL]
end Go.Proofs.YtcddocjpdlacaaaDoor

/-
  The truths of a formula's Not.
-/
namespace Go.Proofs.YtcddocjpdlacaaaDoor
open Go.ChangeShapes Go.WideShapes Go.ChangeAt Go.RowKit Go.Deep
open Terms Tm

set_option maxRecDepth 20000 in
theorem sec_not {m : Nat} {l : List (Int × Int)} {T : Tm} (hF : FOk m l T) {p : Nat} (hp : p + 1 < l.length) : sec ((10, 0) :: l) (p + 1) = sec l p + 1 := by
  have h1 := (Tm.end_at hF.wf (q := p + 1) (by rw [hF.size]; exact hp)).1
  have h2 := (Tm.end_at hF.not.wf (q := p + 2) (by rw [hF.not.size]; simp; omega)).1
  rw [hF.ops] at h1
  rw [hF.not.ops] at h2
  unfold sec
  rw [h1, show p + 1 + 1 = p + 2 from rfl, h2]
  show p + 2 + (T.sub (p + 1)).size = _
  omega
set_option maxRecDepth 20000 in
theorem aheadTo_not (l : List (Int × Int)) : ∀ p, (aheadTo ((10, 0) :: l) (p + 1)).length = (aheadTo l p).length := by
  intro p
  induction p with
  | zero => simp [aheadTo, lookB]
  | succ p ih =>
    have e : ((10, (0 : Int)) :: l : List (Int × Int)).getD (p + 1) (0, 0) = l.getD p (0, 0) := by simp [List.getD_eq_getElem?_getD]
    cases hb : lookB (l.getD p (0, 0)).1 with
    | true => rw [aheadTo_yes hb, aheadTo_yes (l := (10, 0) :: l) (n := p + 1) (by rw [e]; exact hb), List.length_append, List.length_append, ih]; rfl
    | false => rw [aheadTo_no hb, aheadTo_no (l := (10, 0) :: l) (n := p + 1) (by rw [e]; exact hb), ih]
set_option maxRecDepth 20000 in
/-- THE TRUTHS OF A FORMULA ARE THOSE OF ITS NOT, a place further on. -/
theorem tru_shift {m : Nat} {l : List (Int × Int)} {T : Tm} (hF : FOk m l T) (h60 : l.length ≤ 59) (letter : List Bool) (claim : Int) : ∀ d p, l.length ≤ p + d → p < l.length → tru ((10, 0) :: l) letter claim (p + 1) = tru l letter claim p := by
  have hz := hF.ends (by omega)
  have hz' := hF.not.ends (by simp; omega)
  intro d
  induction d with
  | zero => intro p h1 h2; omega
  | succ d ih =>
    intro p h1 h2
    have e : ((10, (0 : Int)) :: l : List (Int × Int)).getD (p + 1) (0, 0) = l.getD p (0, 0) := by simp [List.getD_eq_getElem?_getD]
    have hp' : p + 1 < ((10, (0 : Int)) :: l : List (Int × Int)).length := by simp; omega
    obtain ⟨q1, q2⟩ := part_in hz h2
    obtain ⟨_, q3⟩ := part_in hz' hp'
    rw [e] at q3
    cases hb : lookB (l.getD p (0, 0)).1 with
    | true => rw [tru_look h2 hb, tru_look hp' (by rw [e]; exact hb), aheadTo_not]
    | false =>
      rw [tru_mk h2 hb (fun h => (q2 h).1), tru_mk hp' (by rw [e]; exact hb) (by rw [e]; exact fun h => (q3 h).1), e]
      by_cases k1 : 1 ≤ pn (l.getD p (0, 0)).1
      · rw [ih (p + 1) (by omega) (q1 k1)]
        by_cases k2 : pn (l.getD p (0, 0)).1 = 2
        · rw [sec_not hF (q1 k1), ih (sec l p) (by have := (q2 k2).1; omega) (q2 k2).2]
        · have hk : (l.getD p (0, 0)).1 ≠ 8 ∧ (l.getD p (0, 0)).1 ≠ 9 := by
            constructor <;> intro e <;> rw [e] at k2 <;> exact absurd rfl k2
          simp only [mkB, hk.1, hk.2, if_false]
      · have hk : (l.getD p (0, 0)).1 ≠ 8 ∧ (l.getD p (0, 0)).1 ≠ 9 ∧ (l.getD p (0, 0)).1 ≠ 10 := by
          refine ⟨?_, ?_, ?_⟩ <;> intro e <;> rw [e] at k1 <;> exact absurd (by decide) k1
        simp only [mkB, hk.1, hk.2.1, hk.2.2, if_false]
set_option maxRecDepth 20000 in
theorem tru_not {m : Nat} {l : List (Int × Int)} {T : Tm} (hF : FOk m l T) (h60 : l.length ≤ 59) (h0 : 0 < l.length) (letter : List Bool) (claim : Int) : tru ((10, 0) :: l) letter claim 0 = !tru l letter claim 0 := by
  rw [tru_mk (l := (10, 0) :: l) (p := 0) (by simp) rfl (fun h => absurd h (by show ¬ pn 10 = 2; decide)), ← tru_shift hF h60 letter claim l.length 0 (by omega) h0]
  simp [mkB]
end Go.Proofs.YtcddocjpdlacaaaDoor

/-
  A formula and its Not begin at all claims of the first state: the mathematics.
-/
namespace Go.Proofs.YtcddocjpdlacaaaDoor
open Go.ChangeShapes Go.WideShapes Go.ChangeAt Go.RowKit Go.Deep
open Terms Tm

/-- how often a claim stands there. -/
def cntC (l : List (Int × Int)) (j : Nat) : Nat := (l.filter fun p => decide (p.2 = (j : Int))).length
set_option maxRecDepth 20000 in
theorem cntC_snoc (l : List (Int × Int)) (p : Int × Int) (j : Nat) : cntC (l ++ [p]) j = cntC l j + if p.2 = (j : Int) then 1 else 0 := by
  unfold cntC
  rw [List.filter_append, List.length_append]
  congr 1
  by_cases h : p.2 = (j : Int) <;> simp [h]
set_option maxRecDepth 20000 in
theorem begTo_mem {m : Mo} {ps : List (List (Int × Int))} {l : List (Int × Int)} : ∀ {k : Nat} {p : Int × Int}, p ∈ begTo m ps l k → p.1 = begC m ∧ ∃ j : Nat, j < k ∧ p.2 = (j : Int)
  | 0, p, h => by simp [begTo] at h
  | k + 1, p, h => by
    rw [begTo] at h
    split at h
    · obtain ⟨h1, j, h2, h3⟩ := begTo_mem h
      exact ⟨h1, j, by omega, h3⟩
    · rcases List.mem_append.1 h with h | h
      · obtain ⟨h1, j, h2, h3⟩ := begTo_mem h
        exact ⟨h1, j, by omega, h3⟩
      · simp only [List.mem_singleton] at h
        subst h
        exact ⟨rfl, k, by omega, rfl⟩
set_option maxRecDepth 20000 in
theorem begTo_cnt (m : Mo) (ps : List (List (Int × Int))) (l : List (Int × Int)) (j : Nat) : ∀ k, cntC (begTo m ps l k) j = if j < k ∧ tru l (letL m ps (begC m)) (j : Int) 0 = false then 1 else 0
  | 0 => by simp [begTo, cntC]
  | k + 1 => by
    rw [begTo]
    have ih := begTo_cnt m ps l j k
    by_cases ht : tru l (letL m ps (begC m)) (k : Int) 0 = true
    · rw [if_pos ht, ih]
      by_cases hjk : j = k
      · subst hjk
        simp [ht]
      · have : j < k ↔ j < k + 1 := by omega
        simp [this]
    · rw [if_neg ht, cntC_snoc, ih]
      have ht' : tru l (letL m ps (begC m)) (k : Int) 0 = false := by cases h : tru l (letL m ps (begC m)) (k : Int) 0 <;> simp_all
      by_cases hjk : j = k
      · subst hjk
        simp [ht']
      · have h1 : j < k ↔ j < k + 1 := by omega
        have h2 : ¬ ((k : Int) = (j : Int)) := by omega
        simp [h1, h2]
section
variable {m : Mo} {l : List (Int × Int)} {mm : Nat}
set_option maxRecDepth 20000 in
theorem ba_not (h : KTaskOk m l mm) (hl : l ≠ []) (letter : List Bool) (claim : Int) : tru ((10, 0) :: l) letter claim 0 = !tru l letter claim 0 := by
  obtain ⟨T, hT⟩ := h.fo
  exact tru_not hT h.len (List.length_pos_iff.2 hl) letter claim
set_option maxRecDepth 20000 in
theorem ba_ahead (h : KTaskOk m l mm) : (aheadL l).length = mm ∧ (aheadL ((10, 0) :: l)).length = mm := by
  obtain ⟨T, hT⟩ := h.fo
  exact ⟨hT.ahead, hT.not.ahead⟩
set_option maxRecDepth 20000 in
/-- each claim comes with one of them. -/
theorem ba_one (h : KTaskOk m l mm) (hl : l ≠ []) (j : Nat) : cntC (begL m propsL l) j + cntC (begL m propsL ((10, 0) :: l)) j = if j < 2 ^ mm then 1 else 0 := by
  unfold begL
  rw [(ba_ahead h).1, (ba_ahead h).2, begTo_cnt, begTo_cnt, ba_not h hl]
  by_cases hj : j < 2 ^ mm
  · cases tru l (letL m propsL (begC m)) (j : Int) 0 <;> simp [hj]
  · simp [hj]
set_option maxRecDepth 20000 in
theorem ba_len (h : KTaskOk m l mm) (hl : l ≠ []) : (begL m propsL l).length + (begL m propsL ((10, 0) :: l)).length = 2 ^ mm := by
  unfold begL
  rw [(ba_ahead h).1, (ba_ahead h).2]
  have key : ∀ k, (begTo m propsL l k).length + (begTo m propsL ((10, 0) :: l) k).length = k := by
    intro k
    induction k with
    | zero => rfl
    | succ k ih =>
      rw [begTo, begTo, ba_not h hl]
      cases tru l (letL m propsL (begC m)) (k : Int) 0 <;> simp <;> omega
  exact key _
set_option maxRecDepth 20000 in
theorem beg_at {m : Mo} {ps : List (List (Int × Int))} {l : List (Int × Int)} {k i : Nat} (hi : i < (begTo m ps l k).length) : ((begTo m ps l k).getD i (0, 0)).1 = begC m ∧ ∃ j : Nat, j < k ∧ ((begTo m ps l k).getD i (0, 0)).2 = (j : Int) ∧ ∀ q, cntC ((begTo m ps l k).take (i + 1)) q = cntC ((begTo m ps l k).take i) q + if q = j then 1 else 0 := by
  have hm : (begTo m ps l k).getD i (0, 0) ∈ begTo m ps l k := by rw [List.getD_eq_getElem?_getD, List.getElem?_eq_getElem hi]; exact List.getElem_mem hi
  obtain ⟨h1, j, h2, h3⟩ := begTo_mem hm
  refine ⟨h1, j, h2, h3, fun q => ?_⟩
  have e : (begTo m ps l k).take (i + 1) = (begTo m ps l k).take i ++ [(begTo m ps l k).getD i (0, 0)] := by
    rw [List.take_add_one, List.getD_eq_getElem?_getD, List.getElem?_eq_getElem hi]
    simp
  rw [e, cntC_snoc, h3]
  congr 1
  by_cases hq : q = j
  · subst hq; simp
  · rw [if_neg (by omega), if_neg hq]
end
set_option maxRecDepth 20000 in
theorem OpsV.setBox {w : World} {v : Value} {l : List (Int × Int)} {p : Addr} {a : Option Addr} {n c : Nat} (h : OpsV w v l) (hc : w.cell? p = some (.slice a n c)) (u : Value) : OpsV (w.setCell p u) v l := by
  obtain ⟨ao, cap, rfl, h0, h⟩ := h
  refine ⟨ao, cap, rfl, h0, fun hne => ?_⟩
  obtain ⟨b, off, rfl, hlt, hat⟩ := h hne
  refine ⟨b, off, rfl, by simpa using hlt, fun i hi => ?_⟩
  obtain ⟨h1, h2⟩ := hat i hi
  have n1 : p ≠ (⟨b, off + i * 2, none⟩ : Addr) := by intro e; rw [e, h1] at hc; simp at hc
  have n2 : p ≠ (⟨b, off + i * 2 + 1, none⟩ : Addr) := by intro e; rw [e, h2] at hc; simp at hc
  exact ⟨by rw [World.cell?_setCell_other _ _ _ _ n1]; exact h1, by rw [World.cell?_setCell_other _ _ _ _ n2]; exact h2⟩
end Go.Proofs.YtcddocjpdlacaaaDoor

/-
  The walk of the law BeginApart.
-/
namespace Go.Proofs.YtcddocjpdlacaaaDoor
open Go.ChangeShapes Go.WideShapes Go.ChangeAt Go.RowKit Go.Deep
open Terms Tm

/-- what is known of a list of spots that is gone through. -/
def Gone (first : Int) (A : List (Int × Int)) : Prop := ∀ i, i < A.length → (A.getD i (0, 0)).1 = first ∧ ∃ j : Nat, j < 8 ∧ (A.getD i (0, 0)).2 = (j : Int) ∧ ∀ q, cntC (A.take (i + 1)) q = cntC (A.take i) q + if q = j then 1 else 0
set_option maxRecDepth 20000 in
theorem SpV.spot {w : World} {ao : Option Addr} {n cap : Nat} {A : List (Int × Int)} (h : SpV w (.slice ao n cap) A) (hn : A.length = n) {i : Nat} (hi : i < n) : ∃ b off, ao = some ⟨b, off, none⟩ ∧ w.cell? ⟨b, off + i * 2, none⟩ = some (.int .i64 (A.getD i (0, 0)).1) ∧ w.cell? ⟨b, off + i * 2 + 1, none⟩ = some (.int .i64 (A.getD i (0, 0)).2) := by
  obtain ⟨a, c, e, h1⟩ := h
  injection e with e _ _
  subst e
  obtain ⟨b, off, rfl, _, hat⟩ := h1 (by intro e; rw [e] at hn; simp at hn; omega)
  exact ⟨b, off, rfl, (hat i (by omega)).1, (hat i (by omega)).2⟩

set_option maxHeartbeats 6400000 in
set_option maxRecDepth 20000 in
theorem beginApart_walk (c0 c1 c2 c3 c4 c5 c6 : Value) (a b : Vr) (rawv : Value) (rs : List (Int × Int)) (w : World) (hB : 0 < w.heap.size) (hT : TabAt w) (hG : GV a b) (hR : Raws w w.heap.size rawv rs)
    (hmd : ∀ w', Below w.heap.size w w' → Calls Tryd.prog 8 #[.agg #[c0, c1, c2, c3, c4, c5, c6]] w' fun e w2 => ∃ va vr, e = .returned (.agg #[va, vr]) ∧ Below w'.heap.size w' w2 ∧ GModel w2 va vr [a, b]) :
    Calls Tryd.prog 3 #[.agg #[c0, c1, c2, c3, c4, c5, c6], rawv] w fun e w' => e = .returned (.bool true) ∧ Below w.heap.size w w' := by
  have hA1 : Below w.heap.size w (w.alloc (.cells #[c0, c1, c2, c3, c4, c5, c6] 25)) := (Below.refl _ _).alloc (Nat.le_refl _) _
  have htk := taskFn_any c0 c1 c2 c3 c4 c5 c6 a b rawv rs 3 _ hG (by decide) (hR.up hA1) (fun w' h => hmd w' (hA1.trans (h.mono hA1.size)))
  have HBg : Hid (∀ (w' : World) (va vr pv fv : Value) (m : Mo) (l : List (Int × Int)) (mm : Nat), Below w.heap.size w w' → KTaskOk m l mm → TaskV w' va vr pv fv m propsL l → Calls Tryd.prog 6 #[.agg #[va, vr, pv, fv]] w' fun e w2 => ∃ so sn sc, e = .returned (.tuple #[.slice so sn sc, .int .i64 0]) ∧ Below w'.heap.size w' w2 ∧ Hid (SpV w2 (.slice so sn sc) (begL m propsL l) ∧ (begL m propsL l).length = sn)) := fun w' va vr pv fv m l mm h hk hv => (pbegin_any va vr pv fv m propsL l w' (Nat.lt_of_lt_of_le hB h.size) (hT.below h hB) hv).mono fun e w2 ⟨so, sc, h1, h2, h3⟩ => by
    rw [begR_ok hk.code] at h1 h3
    rw [hk.code] at h1
    exact ⟨so, _, sc, h1, h2, h3.out.v, rfl⟩
  have HFi : Hid (∀ (w' : World) (va vr : Value) (m : Mo), Below w.heap.size w w' → mcode m = 0 → ModelV w' va vr m → Calls Tryd.prog 7 #[.agg #[va, vr]] w' fun e w2 => e = .returned (.tuple #[.int .i64 (begC m), .int .i64 0]) ∧ Below w'.heap.size w' w2) := fun w' va vr m h hm hv => by
    have := mfirst_any va vr m w' (Nat.lt_of_lt_of_le hB h.size) (hT.below h hB) hv
    rw [if_pos hm, hm] at this
    exact this
  obtain ⟨ra, rn0, rc0, hra⟩ : ∃ a n c, rawv = .slice a n c := by obtain ⟨⟨a, c, h, _⟩, _, _⟩ := hR; exact ⟨_, _, _, h⟩
  subst hra
  have hmk := run_make_row' (P := Tryd.prog) 43 3 (.int .i64 0) 8 Tryd.underlying43 infoInt rfl .i64 .i64 8 (by omega) (by omega)
  have hmk8 : ∀ w : World, (Instr.makeSlice 43 (.int .i64 8) (.int .i64 8)).run Tryd.prog w = .ok (.slice (some ⟨w.heap.size, 0, none⟩) 8 8) (w.alloc (.cells (madeCells #[.int .i64 0] 8) 3)) := fun w => hmk w
  have tk2 := True.intro
  clear hmd hR hT hmk
  go_enter Tryd.func3, Tryd.ntmps3
  have HJ : Hid (∀ (w1 : World) (o1 o2 : Obj) (fo : Option Addr) (fn fc : Nat) (l : List (Int × Int)), OpsV w1 (.slice fo fn fc) l → l.length = fn → l ≠ [] → fn ≤ 17 → Calls Tryd.prog 5 #[.int .i64 10, .slice (some ⟨w1.heap.size + 1 + 1, 0, none⟩) 1 1] (((w1.alloc o1).alloc o2).alloc (.cells #[.slice fo fn fc] 32)) fun e w' => ∃ jo jc, e = .returned (.slice jo (fn + 1) jc) ∧ Below (((w1.alloc o1).alloc o2).alloc (.cells #[.slice fo fn fc] 32)).heap.size (((w1.alloc o1).alloc o2).alloc (.cells #[.slice fo fn fc] 32)) w' ∧ Hid (OpsV w' (.slice jo (fn + 1) jc) ((10, 0) :: l))) := fun w1 o1 o2 fo fn fc l h1 h2 h3 h4 => by
    have hb : Below w1.heap.size w1 (((w1.alloc o1).alloc o2).alloc (.cells #[.slice fo fn fc] 32)) := (((Below.refl _ _).alloc (Nat.le_refl _) _).alloc (by simp) _).alloc (by simp; omega) _
    refine (joined1 10 (w1.heap.size + 1 + 1) (.slice fo fn fc) l _ (by simp [go_sem]) (by omega) h3 (h1.below hb)).mono fun e w' ⟨a, c, g1, g2, g3⟩ => ?_
    rw [List.length_cons, h2] at g1 g3
    exact ⟨a, c, g1, g2, g3⟩
  go_wp2_with (first
    | (go_at_call 4; refine htk.mono ?_; rintro e w1 ⟨ao, ac, ro, rn, rc, pb, fo, fn, fc, m, l, mm, rfl, hb1, HV, HK, hmm, hfn⟩; have hbw1 := hA1.trans (hb1.mono hA1.size); have hjo := HJ.out w1 (.cells #[.slice ao 2 ac, .slice ro rn rc, .slice (some ⟨pb, 0, none⟩) 3 3, .slice fo fn fc] 34) (.cells #[.slice ao 2 ac, .slice ro rn rc, .slice (some ⟨pb, 0, none⟩) 3 3, .slice fo fn fc] 34) fo fn fc l HV.out.fo HK.out.2.2.1 HK.out.2.2.2 hfn)
    | (go_at_call 5; refine hjo.mono ?_; rintro e w4 ⟨jo, jc, rfl, hb4, HJv⟩; have hz4 : w1.heap.size + 3 ≤ w4.heap.size := (by have := hb4.size; simp at this; omega); have hb14 : Below w1.heap.size w1 w4 := ((((Below.refl w1.heap.size w1).alloc (Nat.le_refl _) _).alloc (by simp) _).alloc (by simp; omega) _).trans (hb4.mono (by simp; omega)); obtain ⟨p0, p1, p2, p3⟩ : w4.cell? ⟨w1.heap.size, 0, none⟩ = some (.slice ao 2 ac) ∧ w4.cell? ⟨w1.heap.size, 1, none⟩ = some (.slice ro rn rc) ∧ w4.cell? ⟨w1.heap.size, 2, none⟩ = some (.slice (some ⟨pb, 0, none⟩) 3 3) ∧ w4.cell? ⟨w1.heap.size, 3, none⟩ = some (.slice fo fn fc) := ⟨(hb4.cell (p := ⟨w1.heap.size, 0, none⟩) (by simp; omega)).trans (by simp [go_sem]), (hb4.cell (p := ⟨w1.heap.size, 1, none⟩) (by simp; omega)).trans (by simp [go_sem]), (hb4.cell (p := ⟨w1.heap.size, 2, none⟩) (by simp; omega)).trans (by simp [go_sem]), (hb4.cell (p := ⟨w1.heap.size, 3, none⟩) (by simp; omega)).trans (by simp [go_sem])⟩; obtain ⟨q0, q1, q2, q3, q4⟩ : w4.cell? ⟨w1.heap.size + 1, 0, none⟩ = some (.slice ao 2 ac) ∧ w4.cell? ⟨w1.heap.size + 1, 1, none⟩ = some (.slice ro rn rc) ∧ w4.cell? ⟨w1.heap.size + 1, 2, none⟩ = some (.slice (some ⟨pb, 0, none⟩) 3 3) ∧ w4.cell? ⟨w1.heap.size + 1, 3, none⟩ = some (.slice fo fn fc) ∧ w4.frozen? ⟨w1.heap.size + 1, 3, none⟩ = false := ⟨(hb4.cell (p := ⟨w1.heap.size + 1, 0, none⟩) (by simp)).trans (by simp [go_sem]), (hb4.cell (p := ⟨w1.heap.size + 1, 1, none⟩) (by simp)).trans (by simp [go_sem]), (hb4.cell (p := ⟨w1.heap.size + 1, 2, none⟩) (by simp)).trans (by simp [go_sem]), (hb4.cell (p := ⟨w1.heap.size + 1, 3, none⟩) (by simp)).trans (by simp [go_sem]), (hb4.frozen (p := ⟨w1.heap.size + 1, 3, none⟩) (by simp)).trans (by simp [go_sem])⟩; have hb5 : Below w1.heap.size w1 (w4.setCell ⟨w1.heap.size + 1, 3, none⟩ (.slice jo (fn + 1) jc)) := hb14.setCell (p := ⟨w1.heap.size + 1, 3, none⟩) (by simp) _; have hbw5 := hbw1.trans (hb5.mono hbw1.size); have HV5 := (show Hid _ from HV.out.below hb5); have HJ5 := (show Hid _ from HJv.out.setBox q3 (.slice jo (fn + 1) jc)); have hbg := HBg.out _ _ _ _ _ _ _ _ hbw5 HK.out.1 HV5.out))
  have HC5 : Hid (∀ w', Below w4.heap.size (w4.setCell ⟨w1.heap.size + 1, 3, none⟩ (.slice jo (fn + 1) jc)) w' → (w'.cell? ⟨w1.heap.size, 0, none⟩ = some (.slice ao 2 ac) ∧ w'.cell? ⟨w1.heap.size, 1, none⟩ = some (.slice ro rn rc)) ∧ w'.cell? ⟨w1.heap.size + 1, 0, none⟩ = some (.slice ao 2 ac) ∧ w'.cell? ⟨w1.heap.size + 1, 1, none⟩ = some (.slice ro rn rc) ∧ w'.cell? ⟨w1.heap.size + 1, 2, none⟩ = some (.slice (some ⟨pb, 0, none⟩) 3 3) ∧ w'.cell? ⟨w1.heap.size + 1, 3, none⟩ = some (.slice jo (fn + 1) jc)) := fun w' h => by
    refine ⟨⟨?_, ?_⟩, ?_, ?_, ?_, ?_⟩
    · exact (h.cell (p := ⟨w1.heap.size, 0, none⟩) (by show w1.heap.size < _; omega)).trans (by simp [go_sem, p0])
    · exact (h.cell (p := ⟨w1.heap.size, 1, none⟩) (by show w1.heap.size < _; omega)).trans (by simp [go_sem, p1])
    · exact (h.cell (p := ⟨w1.heap.size + 1, 0, none⟩) (by show w1.heap.size + 1 < _; omega)).trans (by simp [go_sem, q0])
    · exact (h.cell (p := ⟨w1.heap.size + 1, 1, none⟩) (by show w1.heap.size + 1 < _; omega)).trans (by simp [go_sem, q1])
    · exact (h.cell (p := ⟨w1.heap.size + 1, 2, none⟩) (by show w1.heap.size + 1 < _; omega)).trans (by simp [go_sem, q2])
    · exact (h.cell (p := ⟨w1.heap.size + 1, 3, none⟩) (by show w1.heap.size + 1 < _; omega)).trans (by simp [go_sem, q3])
  have hz5 : (w4.setCell ⟨w1.heap.size + 1, 3, none⟩ (.slice jo (fn + 1) jc)).heap.size = w4.heap.size := by simp
  generalize w4.setCell ⟨w1.heap.size + 1, 3, none⟩ (.slice jo (fn + 1) jc) = W5 at *
  clear p0 p1 p2 p3 q0 q1 q2 q3 q4 hjo htk HJ HJv HV hb14 hb4
  refine hbg.mono ?_
  rintro e w6 ⟨so, sn, sc, rfl, hb6, HA⟩
  have hb56 : Below w4.heap.size W5 w6 := hb6.mono (by omega)
  obtain ⟨⟨a0, a1⟩, a2, a3, a4, a5⟩ := HC5.out w6 hb56
  have hbw6 := hbw5.trans (hb6.mono hbw5.size)
  have hbg2 := HBg.out w6 _ _ _ _ m ((10, 0) :: l) mm hbw6 (HK.out.1.not (by have := HK.out.2.2.1; omega)) ⟨HV5.out.mo.below hb6, HV5.out.ps.below hb6, OpsV.below HJ5.out hb6⟩
  go_wp2_with (first
    | (clear tk2; go_at_call 6; refine hbg2.mono ?_; rintro e w7 ⟨uo, un, uc, rfl, hb7, HU⟩; have hb57 := hb56.trans (hb7.mono (Nat.le_trans (by omega) hb6.size)); obtain ⟨⟨e0, e1⟩, _, _, _, _⟩ := HC5.out w7 hb57; have hbw7 := hbw6.trans (hb7.mono hbw6.size); have hfi := HFi.out w7 _ _ m hbw7 HK.out.1.mo ((HV5.out.mo.below hb6).below hb7))
    | (go_at_call 7; refine hfi.mono ?_; rintro e w8 ⟨rfl, hb8⟩; have hbw8 := hbw7.trans (hb8.mono hbw7.size)))
  have hlK := HK.out.1
  have h8 : 2 ^ mm ≤ 8 := by
    have : 2 ^ mm ≤ 2 ^ 3 := Nat.pow_le_pow_right (by decide) hmm
    omega
  have HGo : Hid (Gone (begC m) (begL m propsL l) ∧ Gone (begC m) (begL m propsL ((10, 0) :: l))) := by
    refine ⟨fun i hi => ?_, fun i hi => ?_⟩
    · obtain ⟨h1, j, h2, h3, h4⟩ := beg_at (m := m) (ps := propsL) (l := l) hi
      exact ⟨h1, j, by rw [(ba_ahead hlK).1] at h2; omega, h3, h4⟩
    · obtain ⟨h1, j, h2, h3, h4⟩ := beg_at (m := m) (ps := propsL) (l := (10, 0) :: l) hi
      exact ⟨h1, j, by rw [(ba_ahead hlK).2] at h2; omega, h3, h4⟩
  have HOne : Hid (∀ j : Nat, cntC (begL m propsL l) j + cntC (begL m propsL ((10, 0) :: l)) j = if j < 2 ^ mm then 1 else 0) := fun j => ba_one hlK HK.out.2.2.2 j
  have hsum : sn + un = 2 ^ mm := by rw [← HA.out.2, ← HU.out.2]; exact ba_len hlK HK.out.2.2.2
  have h124 : 2 ^ mm = 1 ∨ 2 ^ mm = 2 ∨ 2 ^ mm = 4 ∨ 2 ^ mm = 8 := by
    rcases (show mm = 0 ∨ mm = 1 ∨ mm = 2 ∨ mm = 3 by omega) with rfl | rfl | rfl | rfl <;> decide
  have HA8 : Hid (∀ w', Below w8.heap.size w8 w' → SpV w' (.slice so sn sc) (begL m propsL l) ∧ SpV w' (.slice uo un uc) (begL m propsL ((10, 0) :: l))) := fun w' h => ⟨((HA.out.1.below hb7).below hb8).below h, (HU.out.1.below hb8).below h⟩
  have HAl : Hid ((begL m propsL l).length = sn ∧ (begL m propsL ((10, 0) :: l)).length = un) := ⟨HA.out.2, HU.out.2⟩
  have hrow0 := World.rowIs_made w8 (.int .i64 0) 8 3
  have hb9 : Below w8.heap.size w8 (w8.alloc (.cells (madeCells #[.int .i64 0] 8) 3)) := (Below.refl _ _).alloc (Nat.le_refl _) _
  generalize begL m propsL l = A at *
  generalize begL m propsL ((10, 0) :: l) = Bl at *
  generalize begC m = first at *
  generalize 2 ^ mm = N at *
  have HR0 : Hid ((w8.alloc (.cells (madeCells #[.int .i64 0] 8) 3)).rowIs w8.heap.size 3 8 (fun j => .int .i64 ((cntC (A.take 0) j : Nat) : Int))) := hrow0.congr (fun j _ => by simp [cntC])
  clear hrow0 hlK HA HU HK hfi hbg hbg2 a0 a1 a2 a3 a4 a5 e0 e1 HC5 HV5 HJ5 HBg HFi hmk8
  generalize w8.alloc (.cells (madeCells #[.int .i64 0] 8) 3) = W9 at *
  go_loopw [14] (fun i wr => ∃ k : Nat, k ≤ sn ∧ i = .int .i64 k ∧ Hid (wr.rowIs w8.heap.size 3 8 (fun j => .int .i64 ((cntC (A.take k) j : Nat) : Int))) ∧ Below w8.heap.size w8 wr) (fun i _ => sn - (intOf i).toNat)
  case atStart => exact ⟨0, Nat.zero_le _, rfl, HR0, hb9⟩
  case round =>
    obtain ⟨k, hk, rfl, HR, hbr⟩ := hrel
    by_cases hlt : k < sn
    · obtain ⟨sb, soff, rfl, hc1, hc2⟩ := (HA8.out wr hbr).1.spot HAl.out.1 hlt
      obtain ⟨g1, j, hj8, g2, g3⟩ := HGo.out.1 k (by rw [HAl.out.1]; exact hlt)
      rw [g1] at hc1
      rw [g2] at hc2
      have d0 := HR.out.cell hj8
      have d1 := HR.out.frozen j
      have HRn : Hid ((wr.setCell ⟨w8.heap.size, j, none⟩ (.int .i64 ((cntC (A.take k) j : Nat) + 1 : Int))).rowIs w8.heap.size 3 8 (fun q => .int .i64 ((cntC (A.take (k + 1)) q : Nat) : Int))) := (HR.out.set j _).congr (fun q _ => by
        rw [g3 q]
        by_cases hq : q = j
        · subst hq; simp
        · simp [hq])
      have hcn : cntC (A.take k) j ≤ 8 := by
        unfold cntC
        have h1 := List.length_filter_le (fun p : Int × Int => decide (p.2 = (j : Int))) (A.take k)
        rw [List.length_take] at h1
        omega
      have hji : (j : Int) < 8 := by omega
      have hjn : ¬ (7 : Int) < (j : Int) := by omega
      have hki : (k : Int) < (sn : Int) := by omega
      clear g1 g2 g3 HR
      generalize cntC (A.take k) j = cn at *
      go_wp2_with fail
      go_roundw
      case rel => exact ⟨k + 1, by omega, by go_num, HRn, hbr.setCell (p := ⟨w8.heap.size, j, none⟩) (Nat.le_refl _) _⟩
      case measure => simp [intOf]; omega
    · obtain rfl : k = sn := by omega
      have HR1 : Hid (wr.rowIs w8.heap.size 3 8 (fun j => .int .i64 ((cntC A j + cntC (Bl.take 0) j : Nat) : Int))) := HR.out.congr (fun j _ => by rw [List.take_of_length_le (by rw [HAl.out.1]; exact Nat.le_refl _)]; simp [cntC])
      clear HR
      go_wp2_with fail
      go_loopw [15] (fun i wr2 => ∃ k2 : Nat, k2 ≤ un ∧ i = .int .i64 k2 ∧ Hid (wr2.rowIs w8.heap.size 3 8 (fun j => .int .i64 ((cntC A j + cntC (Bl.take k2) j : Nat) : Int))) ∧ Below w8.heap.size w8 wr2) (fun i _ => un - (intOf i).toNat)
      case atStart => exact ⟨0, Nat.zero_le _, rfl, HR1, hbr⟩
      case round =>
        obtain ⟨k2, hk2, rfl, HR2, hbr2⟩ := hrel
        by_cases hlt2 : k2 < un
        · obtain ⟨sb, soff, rfl, hc1, hc2⟩ := (HA8.out wr hbr2).2.spot HAl.out.2 hlt2
          obtain ⟨g1, j, hj8, g2, g3⟩ := HGo.out.2 k2 (by rw [HAl.out.2]; exact hlt2)
          rw [g1] at hc1
          rw [g2] at hc2
          have d0 := HR2.out.cell hj8
          have d1 := HR2.out.frozen j
          have HRn : Hid ((wr.setCell ⟨w8.heap.size, j, none⟩ (.int .i64 ((cntC A j + cntC (Bl.take k2) j : Nat) + 1 : Int))).rowIs w8.heap.size 3 8 (fun q => .int .i64 ((cntC A q + cntC (Bl.take (k2 + 1)) q : Nat) : Int))) := (HR2.out.set j _).congr (fun q _ => by
            rw [g3 q]
            by_cases hq : q = j
            · subst hq; simp; omega
            · simp [hq])
          have hcn : cntC A j + cntC (Bl.take k2) j ≤ 16 := by
            unfold cntC
            have h1 := List.length_filter_le (fun p : Int × Int => decide (p.2 = (j : Int))) (Bl.take k2)
            have h2 := List.length_filter_le (fun p : Int × Int => decide (p.2 = (j : Int))) A
            rw [List.length_take] at h1
            have := HAl.out.1
            omega
          have hji : (j : Int) < 8 := by omega
          have hjn : ¬ (7 : Int) < (j : Int) := by omega
          have hki : (k2 : Int) < (un : Int) := by omega
          clear g1 g2 g3 HR2
          generalize cntC A j + cntC (Bl.take k2) j = cn at *
          go_wp2_with fail
          go_roundw
          case rel => exact ⟨k2 + 1, by omega, by go_num, HRn, hbr2.setCell (p := ⟨w8.heap.size, j, none⟩) (Nat.le_refl _) _⟩
          case measure => simp [intOf]; omega
        · obtain rfl : k2 = un := by omega
          have HR3 : Hid (∀ j, j < 8 → wr.cell? ⟨w8.heap.size, j, none⟩ = some (.int .i64 (if j < N then 1 else 0))) := fun j hj => by
            rw [HR2.out.cell hj, List.take_of_length_le (by rw [HAl.out.2]; exact Nat.le_refl _), HOne.out j]
            by_cases hjN : j < N <;> simp [hjN]
          have hbF := hbw8.trans (hbr2.mono hbw8.size)
          clear HR2 HR1 HGo HOne HA8 HAl HR0
          go_wp2_with fail
          go_loopw [17] (fun i wr3 => ∃ q : Nat, q ≤ 8 ∧ i = .int .i64 q ∧ wr3 = wr) (fun i _ => 8 - (intOf i).toNat)
          case atStart => exact ⟨0, by omega, rfl, rfl⟩
          case round =>
            obtain ⟨q, hq, rfl, rfl⟩ := hrel
            by_cases hq8 : q < 8
            · have d0 := HR3.out q hq8
              have hqi : (q : Int) < 8 := by omega
              by_cases hqN : q < N
              · rw [if_pos hqN] at d0
                have hqs : (q : Int) < (k : Int) + (k2 : Int) := by omega
                go_wp2_with fail
                go_roundw
                case rel => exact ⟨q + 1, by omega, by go_num, by trivial⟩
                case measure => simp [intOf]; omega
              · rw [if_neg hqN] at d0
                have hqs : ¬ (q : Int) < (k : Int) + (k2 : Int) := by omega
                have hqt : (k : Int) + (k2 : Int) ≤ (q : Int) := by omega
                go_wp2_with fail
                go_roundw
                case rel => exact ⟨q + 1, by omega, by go_num, by trivial⟩
                case measure => simp [intOf]; omega
            · have hq9 : ¬ (q : Int) < 8 := by omega
              rcases h124 with h | h | h | h
              · have hse : (k : Int) + (k2 : Int) = 1 := by omega
                go_wp2_with fail
                go_ret
                exact ⟨rfl, hbF⟩
              · have hse : (k : Int) + (k2 : Int) = 2 := by omega
                go_wp2_with fail
                go_ret
                exact ⟨rfl, hbF⟩
              · have hse : (k : Int) + (k2 : Int) = 4 := by omega
                go_wp2_with fail
                go_ret
                exact ⟨rfl, hbF⟩
              · have hse : (k : Int) + (k2 : Int) = 8 := by omega
                go_wp2_with fail
                go_ret
                exact ⟨rfl, hbF⟩
end Go.Proofs.YtcddocjpdlacaaaDoor
