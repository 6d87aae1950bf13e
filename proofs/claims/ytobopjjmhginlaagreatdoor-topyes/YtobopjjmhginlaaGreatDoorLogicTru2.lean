import Derived.Test.YtobopjjmhginlaaGreatDoorLogicTru
import Derived.Test.YtobopjjmhginlaaGreatDoorLogicRound
namespace Go.Proofs.YtobopjjmhginlaaGreatDoor
open Go.ChangeShapes Go.WideShapes Go.ChangeAt Go.RowKit Go.Deep Go.Shelf
open Terms
set_option maxHeartbeats 6400000
set_option maxRecDepth 20000
attribute [local go_sem] Oper.semAt_some
def trAct (p3 p4 p8 p11 p12 r0 r1 r2 r5 r6 r7 r9 r10 r13 r14 r15 r16 r17 r18 r19 r20 r21 r22 r23 r24 r25 r26 r27 r28 r29 r30 r31 r32 r33 r34 r35 r36 r37 r38 r39 r40 r41 r42 r43 r44 r45 r46 r47 r48 r49 r50 r51 r52 r53 r54 r55 r56 r57 r58 r59 r60 r61 r62 r63 r64 r65 r66 r67 r68 r69 r70 : Value) : Act := { tmps := #[r0, r1, r2, p3, p4, r5, r6, r7, p8, r9, r10, p11, p12, r13, r14, r15, r16, r17, r18, r19, r20, r21, r22, r23, r24, r25, r26, r27, r28, r29, r30, r31, r32, r33, r34, r35, r36, r37, r38, r39, r40, r41, r42, r43, r44, r45, r46, r47, r48, r49, r50, r51, r52, r53, r54, r55, r56, r57, r58, r59, r60, r61, r62, r63, r64, r65, r66, r67, r68, r69, r70], defers := [] }
def TrAx (w : World) (s : Nat) (o : Int × Int) (p : Nat) (a' : Act) (W : World) : Prop := ∃ Bx, s <= Bx /\ W.cell? ⟨Bx, 0, none⟩ = some (.int .i64 o.1) /\ W.cell? ⟨Bx, 1, none⟩ = some (.int .i64 o.2) /\ ∃ r0 r1 r2 r5 r6 r7 r9 r10 r13 r14 r15 r16 r17 r18 r19 r20 r21 r22 r23 r24 r25 r26 r27 r28 r29 r30 r31 r32 r33 r34 r35 r36 r37 r38 r39 r40 r41 r42 r43 r44 r45 r46 r47 r48 r49 r50 r51 r52 r53 r54 r55 r56 r57 r58 r59 r60 r61 r62 r63 r64 r65 r66 r67 r68 r69 r70 : Value, a' = trAct (.pointer (some ⟨w.heap.size, 0, none⟩)) (.pointer (some ⟨w.heap.size + 1, 0, none⟩)) (.pointer (some ⟨w.heap.size + 1 + 1 + 1, 0, none⟩)) (.int .i64 (p : Int)) (.pointer (some ⟨Bx, 0, none⟩)) r0 r1 r2 r5 r6 r7 r9 r10 r13 r14 r15 r16 r17 r18 r19 r20 r21 r22 r23 r24 r25 r26 r27 r28 r29 r30 r31 r32 r33 r34 r35 r36 r37 r38 r39 r40 r41 r42 r43 r44 r45 r46 r47 r48 r49 r50 r51 r52 r53 r54 r55 r56 r57 r58 r59 r60 r61 r62 r63 r64 r65 r66 r67 r68 r69 r70
theorem keeps_of_below {B : Nat} {W W' : World} (h : Below W.heap.size W W') : KeepsFrom B W W' := ⟨h.size, fun k _ _ hk _ => (h.block k (Array.getElem?_eq_some_iff.1 hk).1).trans hk⟩
set_option maxRecDepth 100000 in
theorem truths_in (b off cap n B : Nat) (aao : Option Addr) (an ac : Nat) (lo : Option Addr) (ln lc : Nat) (l : List (Int × Int)) (letter : List Bool) (claim : Int) (w : World) (h0n : 0 < n) (h60 : n <= 60) (hn : n = l.length) (hz : endsCode (l.map Prod.fst) = 0) (hops : OpsAt w b off l) (hbl : b < w.heap.size)
    (hrow : w.rowIs B 3 n (fun q => .int .i64 (endAt (l.map Prod.fst) q))) (han : an = (aheadL l).length) (hav : IntsV w (.slice aao an ac) (aheadL l)) (h6 : an <= 6) (hln : ln = letter.length) (hL : BoolsV w (.slice lo ln lc) letter) (hlf : lfirst ln l = 0) (h0 : 0 <= claim) (h1 : claim < 2 ^ an) :
    Calls Tryz.prog 64 #[.agg #[.slice (some ⟨b, off, none⟩) n cap, .slice (some ⟨B, 0, none⟩) n n, .slice aao an ac], .slice lo ln lc, .int .i64 claim] w fun e w' => ∃ bH, e = .returned (.tuple #[.slice (some ⟨bH, 0, none⟩) n n, .int .i64 0]) /\ Below w.heap.size w w' /\ Hid (w'.rowIs bH 4 n (fun j => .bool (tru l letter claim j))) /\ w.heap.size <= bH := by
  refine (callsIn_wide (n := 8)).1 ?_
  refine callsIn_of_wp_marks Tryz.func64 rfl trivial ?_ rfl
  simp only [Tryz.ntmps64, List.size_toArray, List.length_cons, List.length_nil, Nat.reduceAdd, Nat.reduceSub, Array.replicate_succ, Array.replicate_zero, List.push_toArray, List.append_toArray, List.nil_append, List.cons_append]; have hmk := run_make_row' (P := Tryz.prog) 90 4 (.bool false) 1 Tryz.underlying90 infoBool rfl .i64 .i64 n (by omega) (by omega)
  have HO : Hid (OpsAt w b off l) := hops; have HN : Hid (n = l.length) := hn; have HR : Hid (w.rowIs B 3 n (fun q => .int .i64 (endAt (l.map Prod.fst) q))) := hrow
  have HAN : Hid (an = (aheadL l).length) := han; have HAV : Hid (IntsV w (.slice aao an ac) (aheadL l)) := hav; have HLN : Hid (ln = letter.length) := hln; have HL : Hid (BoolsV w (.slice lo ln lc) letter) := hL; have HLF : Hid (lfirst ln l = 0) := hlf; have HZ : Hid (endsCode (l.map Prod.fst) = 0) := hz; clear hops hn hrow han hav hln hL hlf hz
  have hcase : an = 0 \/ an = 1 \/ an = 2 \/ an = 3 \/ an = 4 \/ an = 5 \/ an = 6 := by omega
  have hsh : (2 : Int) ^ an <= 64 := by rcases hcase with rfl | rfl | rfl | rfl | rfl | rfl | rfl <;> decide
  clear hcase
  gi_wp2
  have HS0 : Hid (TrSt w (.slice (some ⟨b, off, none⟩) n cap) (.slice (some ⟨B, 0, none⟩) n n) (.slice aao an ac) (.slice lo ln lc) n (iniB l claim 0) 0 ((((w.alloc (.cells #[.slice (some ⟨b, off, none⟩) n cap, .slice (some ⟨B, 0, none⟩) n n, .slice aao an ac] 128)).alloc (.cells #[.slice lo ln lc] 90)).alloc (.cells (madeCells #[.bool false] n) 4)).alloc (.cells #[.slice (some ⟨w.heap.size + 1 + 1, 0, none⟩) n n] 90))) := by
    have r := World.rowIs_made ((w.alloc (.cells #[.slice (some ⟨b, off, none⟩) n cap, .slice (some ⟨B, 0, none⟩) n n, .slice aao an ac] 128)).alloc (.cells #[.slice lo ln lc] 90)) (.bool false) n 4; simp only [World.size_alloc] at r
    have hB3 : ∀ o1 o2 o3 o4, Below (w.heap.size + 1) (w.alloc o1) ((((w.alloc o1).alloc o2).alloc o3).alloc o4) := fun o1 o2 o3 o4 => (((Below.refl _ _).alloc (by simp) o2).alloc (by simp) o3).alloc (by simp) o4
    exact ⟨(Three.new w _ _ _ _).below (hB3 _ _ _ _) (Nat.lt_succ_self _), by simp [go_sem], by simp [go_sem], (r.of_block (Below.heap_alloc _ _ _ r.lt)).congr (fun j _ => by simp [iniB]), ((((Below.refl _ _).alloc (Nat.le_refl _) _).alloc (by simp) _).alloc (by simp; omega) _).alloc (by simp; omega) _, Nat.zero_le _⟩
  gi_loopw [32] (fun i wr => ∃ k : Nat, k <= an /\ i = .int .i64 k /\ Hid (TrSt w (.slice (some ⟨b, off, none⟩) n cap) (.slice (some ⟨B, 0, none⟩) n n) (.slice aao an ac) (.slice lo ln lc) n (iniB l claim k) 0 wr)) (fun i _ => an - (intOf i).toNat)
  case atStart =>
    exact ⟨0, Nat.zero_le _, rfl, HS0.out⟩
  case round =>
    obtain ⟨k, hk, rfl, HSt⟩ := hrel; have hst := HSt.out
    by_cases hlt : k < an
    · obtain ⟨p, hp, hpn, hlk, hpi⟩ := aheadTo_get l l.length k (by have := HAN.out; unfold aheadL at this; omega)
      obtain ⟨ao', cap', hsl, hai⟩ := HAV.out
      injection hsl with e1 e2 e3
      subst e1; obtain ⟨ab, aoff, rfl, habl, haat⟩ := hai (by intro h; have := HAN.out; rw [h] at this; simp at this; omega)
      have hca := (hst.below.cell (p := ⟨ab, aoff + k, none⟩) habl).trans (haat k (by rw [<- HAN.out]; exact hlt))
      have hca' : wr.cell? ⟨ab, aoff + k, none⟩ = some (.int .i64 (p : Int)) := by rw [hca]; exact congrArg (fun z => some (Value.int .i64 z)) hp
      have hch := hst.holds; have hf := hst.row.frozen p; have hpn' : p < n := by rw [HN.out]; exact hpn
      have hcp := hst.row.cell hpn'; obtain ⟨t0, t1, t2, _⟩ := hst.three; have HP : Hid (lookB (l.getD p (0, 0)).1 = true /\ (aheadTo l p).length = k) := ⟨hlk, hpi⟩; clear hp hpn hlk hpi hai haat hca e2 e3; have hmx : Tryz.prog.follows .mixedOrders = true := by kernel_rfl
      gi_wp2
      gi_region_o
      all_goals gi_wp2
      refine ⟨⟨k + 1, hlt, by first | rfl | simp, ?_⟩, by simp [intOf]; omega⟩
      rw [bits_bitB h0 (by omega)]
      exact ((hst.put p (bitB claim k)).congr (fun j _ => iniB_step HP.out.1 HP.out.2 j)).drew
    · obtain rfl : k = an := by omega
      have HAL : Hid (k = (aheadL l).length) := HAN.out; obtain ⟨t0, t1, t2, _⟩ := hst.three; generalize wr = W1 at *; clear hmk HS0 hlt hk HAV
      gi_wp2_with (refine ⟨trivial, ?_⟩; gi_at_call 80; refine (back_in Fence.wide _ trivial rfl _ _ _ _).mono ?_; rintro e w' ⟨rfl, rfl⟩)
      have hs3 : w.heap.size + 4 <= W1.heap.size := by have := World.block_lt_of_cell? W1 ⟨w.heap.size + 1 + 1 + 1, 0, none⟩ hst.holds; simp at this; omega
      refine wpIn_rangeFunc_ownH rfl (by decide) (gf := 98) (lb := #[.pointer (some ⟨W1.heap.size, 0, none⟩)]) rfl trivial (enters_of Tryz.func98 (by kernel_rfl) rfl)
        (back_stops Fence.wide 7 trivial rfl (by decide) W1.heap.size w.heap.size b off n cap l h0n h60 HN.out hbl _ (by simp) (by simp; omega) (by simp [go_sem]) (HO.out.below (hst.below.alloc hst.below.size _) hbl)) backK_t (backK_b (by simp; omega) (by simp)) (Below.refl _ _) (fun _ => rfl)
        (fun pre W => TrSt w (.slice (some ⟨b, off, none⟩) n cap) (.slice (some ⟨B, 0, none⟩) n n) (.slice aao k ac) (.slice lo ln lc) n (foldB l letter (iniB l claim k) pre) (W1.heap.size + 1) W)
        (fun _ _ _ => False)
        (fun s A Bw row hs hg hr => hs.later (B := W1.heap.size + 1) ((Below.refl _ _).grown hg hs.size (fun z e => by have := (hr z e).1; simp at this; omega)) (by omega))
        (fun _ _ _ _ _ hs _ _ => hs)
        ?h0 (fun x => TrAx w (W1.heap.size + 1) (l.getD x.1 (0, 0)) x.1) (fun x a' _ X Y row hs hg hr => by obtain ⟨Bx, h1, h2, h3, h4⟩ := hs; exact ⟨Bx, h1, cell_kept h2 hg (fun r e => (hr r e).2), cell_kept h3 hg (fun r e => (hr r e).2), h4⟩)
        ?assign ?body ?done ?stop
      case h0 =>
        have t := hst.later ((Below.refl W1.heap.size W1).alloc (Nat.le_refl _) (.cells #[.slice (some ⟨b, off, none⟩) n cap] 30)) (by omega)
        exact ⟨t.three, t.letter, t.holds, t.row, t.below, by simp⟩
      case assign =>
        rintro L pre x W K hi hK
        have hsz := hi.size; unfold backEnc
        gi_wp2
        refine hK _ _ ?ka ?kb ?kc ?kd
        case ka => exact (KeepsOthers.alloc _ _).from _
        case kb => exact ⟨(Below.refl _ W).alloc hi.below.size _, Below.heap_alloc _ _ _ (by omega)⟩
        case kc => exact hi.later ((Below.refl W.heap.size W).alloc (Nat.le_refl _) _) (by omega)
        case kd => exact ⟨W.heap.size, by omega, by simp [go_sem], by simp [go_sem], _, _, _, _, _, _, _, _, _, _, _, _, _, _, _, _, _, _, _, _, _, _, _, _, _, _, _, _, _, _, _, _, _, _, _, _, _, _, _, _, _, _, _, _, _, _, _, _, _, _, _, _, _, _, _, _, _, _, _, _, _, _, _, _, _, _, rfl⟩
      case body =>
        rintro L pre x a' W hl ⟨r, hr⟩ hi ⟨Bx, hBx, cx0, cx1, r0, r1, r2, r5, r6, r7, r9, r10, r13, r14, r15, r16, r17, r18, r19, r20, r21, r22, r23, r24, r25, r26, r27, r28, r29, r30, r31, r32, r33, r34, r35, r36, r37, r38, r39, r40, r41, r42, r43, r44, r45, r46, r47, r48, r49, r50, r51, r52, r53, r54, r55, r56, r57, r58, r59, r60, r61, r62, r63, r64, r65, r66, r67, r68, r69, r70, rfl⟩ hlen
        have hsz := hi.size; have hfa := lfirst_all HLF.out x.1 (by rw [<- HN.out]; exact x.2)
        obtain ⟨hp1, hp2⟩ := part_in HZ.out (p := x.1) (by rw [<- HN.out]; exact x.2)
        have HSt : Hid (TrSt w (.slice (some ⟨b, off, none⟩) n cap) (.slice (some ⟨B, 0, none⟩) n n) (.slice aao k ac) (.slice lo ln lc) n (foldB l letter (iniB l claim k) pre) (W1.heap.size + 1) W) := hi; have HNx := foldB_snoc l letter (iniB l claim k) pre x; unfold stepB at HNx
        have HNx' : Hid (foldB l letter (iniB l claim k) (pre ++ [x]) = if lookB (l.getD x.1 (0, 0)).1 = true then foldB l letter (iniB l claim k) pre else fun j => if j = x.1 then mkB (l.getD x.1 (0, 0)) letter (foldB l letter (iniB l claim k) pre (x.1 + 1)) (foldB l letter (iniB l claim k) pre (sec l x.1)) else foldB l letter (iniB l claim k) pre j) := HNx
        clear HNx; obtain ⟨nx, hnx⟩ : ∃ nx, foldB l letter (iniB l claim k) (pre ++ [x]) = nx := ⟨_, rfl⟩
        have HNX : Hid (foldB l letter (iniB l claim k) (pre ++ [x]) = nx) := hnx; rw [hnx] at HNx'; clear hnx; generalize foldB l letter (iniB l claim k) pre = h at *; obtain ⟨p, hpn⟩ := x; simp only at cx0 cx1 hfa hp1 hp2 HNx'
        generalize l.getD p (0, 0) = xy at *; obtain ⟨kx, vx⟩ := xy; simp only at cx0 cx1 hfa hp1 hp2 HNx'
        have hlk := fun w => look_any kx w
        have hBxl : Bx < W.heap.size := World.block_lt_of_cell? W ⟨Bx, 0, none⟩ cx0; have hmx : Tryz.prog.follows .mixedOrders = true := by kernel_rfl
        unfold trAct
        cases hb : lookB kx with
        | true =>
          have HE : Hid (nx = h) := by show _ = _; rw [HNx'.out, if_pos hb]; rw [hb] at hlk; clear hb HNx' hp1 hp2 hfa
          gi_wp2_with (refine ⟨trivial, ?_⟩; gi_at_call 74; refine (CallsIn.inRound L (callsIn_wide.2 (hlk _))).mono ?_; rintro e w2 ⟨rfl, rfl⟩)
          refine ⟨KeepsFrom.refl _ _, ⟨Below.refl _ _, rfl⟩, ?_⟩
          show TrSt w _ _ _ _ n (foldB l letter (iniB l claim k) (pre ++ [⟨p, hpn⟩])) _ _
          rw [HNX.out, HE.out]; exact HSt.out
        | false =>
          have HE : Hid (nx = fun j => if j = p then mkB (kx, vx) letter (h (p + 1)) (h (sec l p)) else h j) := by show _ = _; rw [HNx'.out, if_neg (by rw [hb]; decide)]
          rw [hb] at hlk; have hop : lopErr (ln : Int) (kx, vx) = 0 := hfa
          have hk8 : 8 <= kx := by
            simp only [lopErr] at hop
            split at hop
            · omega
            · omega
          have h13 : kx = 13 -> 0 <= vx /\ vx < letter.length := fun e => by
            simp only [lopErr] at hop; rw [if_neg (by omega), if_pos e] at hop
            split at hop
            · omega
            · have := HLN.out; omega
          have hpr : kx = 10 \/ kx = 8 \/ kx = 9 -> p + 1 < n := fun e => by rw [HN.out]; exact hp1 (by rcases e with rfl | rfl | rfl <;> decide)
          have hps : kx = 8 \/ kx = 9 -> sec l p < n := fun e => by rw [HN.out]; exact (hp2 (by rcases e with rfl | rfl <;> decide)).2
          have hBl : B < w.heap.size := HR.out.lt; have hpa := parts_any b off cap n B (w.heap.size + 1 + 1) p _ h l aao k ac rfl W (fun j hj => hi.row.cell hj) hi.row.lt (fun j hj => (hi.below.cell (p := ⟨B, j, none⟩) hBl).trans (HR.out.cell hj)) (Nat.lt_of_lt_of_le hBl hi.below.size)
          obtain ⟨t0, t1, t2, _⟩ := hi.three; have hch := hi.holds; have hcl := hi.letter
          have HMk : Hid (∀ w2, Below W.heap.size W w2 -> PartsAt w2 (W.heap.size + 1 + 1) W.heap.size (W.heap.size + 1) (w.heap.size + 1 + 1) n B p h l -> Calls Tryz.prog 82 #[.agg #[.int .i64 kx, .int .i64 vx], .slice lo ln lc, .func (.func 99) #[] #[.pointer (some ⟨W.heap.size + 1 + 1, 0, none⟩), .pointer (some ⟨W.heap.size + 1, 0, none⟩)], .func (.func 100) #[] #[.pointer (some ⟨W.heap.size + 1 + 1, 0, none⟩), .pointer (some ⟨W.heap.size, 0, none⟩), .pointer (some ⟨W.heap.size + 1, 0, none⟩)]] w2.drew fun e w' =>
              e = .returned (.bool (mkB (kx, vx) letter (h (p + 1)) (h (sec l p)))) /\ Below W.heap.size W w' /\ w'.cell? ⟨w.heap.size + 1 + 1 + 1, 0, none⟩ = some (.slice (some ⟨w.heap.size + 1 + 1, 0, none⟩) n n) /\ w'.cell? ⟨w.heap.size + 1 + 1, p, none⟩ = some (.bool (h p)) /\ w'.frozen? ⟨w.heap.size + 1 + 1, p, none⟩ = false) := fun w2 hb2 hP => by
            have hlt : W.heap.size + 1 + 1 < w2.heap.size := World.block_lt_of_cell? w2 ⟨W.heap.size + 1 + 1, 0, none⟩ hP.holds; have hbd : Below W.heap.size W w2.drew := hb2.drew; have hPd : PartsAt w2.drew (W.heap.size + 1 + 1) W.heap.size (W.heap.size + 1) (w.heap.size + 1 + 1) n B p h l := ⟨hP.holds, hP.row, hP.ends, hP.erow, hP.place⟩
            have hLd : BoolsV w2.drew (.slice lo letter.length lc) letter := by rw [<- HLN.out]; exact (HL.out.below hi.below).below hbd
            have hsw : w2.drew.heap.size = w2.heap.size := rfl; have hrl := hi.row.lt; rw [HLN.out]; refine (makes_any kx vx lo lc _ _ _ _ n B p letter h l w2.drew h60 hLd hPd (by omega) (by omega) (by omega) (by omega) (by omega) h13 hpr hps).mono fun e w' ⟨he, hb⟩ => ?_
            have hbf : Below W.heap.size W w' := hbd.trans (hb.mono (by omega))
            exact ⟨he, hbf, (hbf.cell (p := ⟨w.heap.size + 1 + 1 + 1, 0, none⟩) (World.block_lt_of_cell? W _ hch)).trans hch, (hbf.cell (p := ⟨w.heap.size + 1 + 1, p, none⟩) hrl).trans (hi.row.cell hpn), (hbf.frozen (p := ⟨w.heap.size + 1 + 1, p, none⟩) hrl).trans (hi.row.frozen p)⟩
          generalize mkB (kx, vx) letter (h (p + 1)) (h (sec l p)) = tv at HMk HE
          have HC2 : Hid (∀ w2, Below W.heap.size W w2 -> w2.cell? ⟨w.heap.size + 1 + 1 + 1, 0, none⟩ = some (.slice (some ⟨w.heap.size + 1 + 1, 0, none⟩) n n) /\ w2.cell? ⟨w.heap.size + 1, 0, none⟩ = some (.slice lo ln lc) /\ w2.cell? ⟨Bx, 0, none⟩ = some (.int .i64 kx) /\ w2.cell? ⟨Bx, 1, none⟩ = some (.int .i64 vx)) := fun w2 hb => ⟨(hb.cell (p := ⟨w.heap.size + 1 + 1 + 1, 0, none⟩) (World.block_lt_of_cell? W _ hch)).trans hch, (hb.cell (p := ⟨w.heap.size + 1, 0, none⟩) (World.block_lt_of_cell? W _ hcl)).trans hcl, (hb.cell (p := ⟨Bx, 0, none⟩) hBxl).trans cx0, (hb.cell (p := ⟨Bx, 1, none⟩) hBxl).trans cx1⟩
          clear hb HNx' hp1 hp2 hfa hop h13 hpr hps hi
          gi_wp2_with (first | (refine ⟨trivial, ?_⟩; gi_at_call 74; refine (CallsIn.inRound L (callsIn_wide.2 (hlk _))).mono ?_; rintro e wz ⟨rfl, hwz⟩; obtain rfl := hwz.symm) | (refine ⟨trivial, ?_⟩; gi_at_call 81; refine (CallsIn.inRound L (callsIn_wide.2 hpa)).mono ?_; rintro e w2 ⟨rfl, hb2, HP2⟩; obtain ⟨d0, d1, d2, d3⟩ := HC2.out w2 hb2; have hma := HMk.out w2 hb2 HP2.out))
          refine region_round (fun w' => w'.cell? ⟨w.heap.size + 1 + 1 + 1, 0, none⟩ = some (.slice (some ⟨w.heap.size + 1 + 1, 0, none⟩) n n) /\ w'.cell? ⟨w.heap.size + 1, 0, none⟩ = some (.slice lo ln lc) /\ w'.cell? ⟨Bx, 0, none⟩ = some (.int .i64 kx) /\ w'.cell? ⟨Bx, 1, none⟩ = some (.int .i64 vx)) hmx ?nd ?nl ?_
          case nd =>
            intro i o ho c; have hi : i < 9 := (Array.getElem?_eq_some_iff.1 ho).1
            have hc : i = 0 \/ i = 1 \/ i = 2 \/ i = 3 \/ i = 4 \/ i = 5 \/ i = 6 \/ i = 7 \/ i = 8 := by omega
            rcases hc with rfl | rfl | rfl | rfl | rfl | rfl | rfl | rfl | rfl <;> (obtain rfl := Option.some.inj ho; exact fun h => by cases h)
          case nl => exact fun ⟨_, _, h⟩ => h
          have hS2 : w2.drew.cell? ⟨w.heap.size + 1 + 1 + 1, 0, none⟩ = some (.slice (some ⟨w.heap.size + 1 + 1, 0, none⟩) n n) /\ w2.drew.cell? ⟨w.heap.size + 1, 0, none⟩ = some (.slice lo ln lc) /\ w2.drew.cell? ⟨Bx, 0, none⟩ = some (.int .i64 kx) /\ w2.drew.cell? ⟨Bx, 1, none⟩ = some (.int .i64 vx) := ⟨d0, d1, d2, d3⟩
          refine wpAnyH_take (i := 0) (v := .slice (some ⟨w.heap.size + 1 + 1, 0, none⟩) n n) rfl (by kernel_rfl) (by kernel_rfl) (by kernel_rfl) (fun _ _ _ h => h) (Or.inl ⟨by rfl, fun wq hSw => by obtain ⟨q0, q1, q2, q3⟩ := hSw; go_simp⟩) hS2 ?_
          simp only [Act.put, List.setIfInBounds_toArray]; refine wpAnyH_take (i := 1) (v := .int .i64 (p : Int)) rfl (by kernel_rfl) (by kernel_rfl) (by kernel_rfl) (fun _ _ _ h => h) (Or.inl ⟨by rfl, fun wq hSw => by obtain ⟨q0, q1, q2, q3⟩ := hSw; go_simp⟩) hS2 ?_
          simp only [Act.put]; refine wpAnyH_take (i := 2) (v := .agg #[.int .i64 kx, .int .i64 vx]) rfl (by kernel_rfl) (by kernel_rfl) (by kernel_rfl) (fun _ _ _ h => h) (Or.inl ⟨by rfl, fun wq hSw => by obtain ⟨q0, q1, q2, q3⟩ := hSw; go_simp⟩) hS2 ?_
          simp only [Act.put]; refine wpAnyH_take (i := 3) (v := .slice lo ln lc) rfl (by kernel_rfl) (by kernel_rfl) (by kernel_rfl) (fun _ _ _ h => h) (Or.inl ⟨by rfl, fun wq hSw => by obtain ⟨q0, q1, q2, q3⟩ := hSw; go_simp⟩) hS2 ?_
          simp only [Act.put]; refine wpAnyH_take (i := 4) (v := .func (.func 99) #[] #[.pointer (some ⟨W.heap.size + 1 + 1, 0, none⟩), .pointer (some ⟨W.heap.size + 1, 0, none⟩)]) rfl (by kernel_rfl) (by kernel_rfl) (by kernel_rfl) (fun _ _ _ h => h) (Or.inl ⟨by rfl, fun wq hSw => by obtain ⟨q0, q1, q2, q3⟩ := hSw; go_simp⟩) hS2 ?_
          simp only [Act.put]; refine wpAnyH_take (i := 5) (v := .func (.func 100) #[] #[.pointer (some ⟨W.heap.size + 1 + 1, 0, none⟩), .pointer (some ⟨W.heap.size, 0, none⟩), .pointer (some ⟨W.heap.size + 1, 0, none⟩)]) rfl (by kernel_rfl) (by kernel_rfl) (by kernel_rfl) (fun _ _ _ h => h) (Or.inl ⟨by rfl, fun wq hSw => by obtain ⟨q0, q1, q2, q3⟩ := hSw; go_simp⟩) hS2 ?_
          simp only [Act.put]; refine wpAnyH_all (rs := [6]) (by kernel_rfl) (by decide) ?_
          intro i hi; obtain rfl : i = 6 := by simpa using hi
          refine wpOp_call rfl (by rfl) (by go_simp) hma ?_
          rintro e w3 ⟨rfl, hb3, g0, g1, g2⟩
          obtain ⟨e0, e1, e2, e3⟩ := HC2.out w3 hb3; refine ⟨_, rfl, ⟨e0, e1, e2, e3⟩, ?_⟩
          simp only [Act.put]; refine wpAnyH_take (i := 7) (v := .pointer (some ⟨w.heap.size + 1 + 1, p, none⟩)) rfl (by kernel_rfl) (by kernel_rfl) (by kernel_rfl) (fun _ _ _ h => h) (Or.inl ⟨by rfl, fun wq _ => by go_simp⟩) ⟨e0, e1, e2, e3⟩ ?_
          simp only [Act.put]; refine wpAnyH_all (rs := [8]) (by kernel_rfl) (by decide) ?_
          intro i hi; obtain rfl : i = 8 := by simpa using hi
          have hco : ∀ z q, z ≠ w.heap.size + 1 + 1 -> (w3.setCell ⟨w.heap.size + 1 + 1, p, none⟩ (.bool tv)).cell? ⟨z, q, none⟩ = w3.cell? ⟨z, q, none⟩ := fun z q hz => World.cell?_of_block (w := w3) (Below.heap_setCell w3 _ _ z hz)
          refine wpOp_skip (w' := w3.setCell ⟨w.heap.size + 1 + 1, p, none⟩ (.bool tv)) rfl (by rfl) (by go_simp) ⟨⟨(hco _ _ (by omega)).trans e0, (hco _ _ (by omega)).trans e1, (hco _ _ (by omega)).trans e2, (hco _ _ (by omega)).trans e3⟩, ?_⟩
          refine wpAnyH_done (by kernel_rfl) ?_ _
          have hW4 : w.heap.size + 4 <= W.heap.size := by omega
          refine ⟨(keeps_of_below hb3).trans ((KeepsOthers.setCell _ _ _).from _), ⟨(hb3.mono HSt.out.below.size).setCell (by simp; omega) _, (Below.heap_setCell w3 _ _ W1.heap.size (by simp; omega)).trans (hb3.block _ (by omega))⟩, ?_⟩
          show TrSt w _ _ _ _ n (foldB l letter (iniB l claim k) (pre ++ [⟨p, hpn⟩])) _ _
          rw [HNX.out, HE.out]; exact (HSt.out.later hb3 hW4).put p tv
      case done =>
        rintro D xs W hD rfl hi hK
        have hch := hi.holds; have HT : Hid (TrSt w (.slice (some ⟨b, off, none⟩) n cap) (.slice (some ⟨B, 0, none⟩) n n) (.slice aao k ac) (.slice lo ln lc) n (tru l letter claim) (W1.heap.size + 1) W) := hi.congr (fun j hj => by rw [HAL.out, foldB_done HZ.out h0n HN.out n (Nat.le_refl _) j hj, if_pos (by omega)])
        clear hi
        gi_wp2
        refine ⟨by simp, .inl ⟨_, _, rfl, run_takeDeferred hK, ?_⟩⟩
        have hb' : Below (W1.heap.size + 1) W (W.putObj D (.deferred none)) := belowK_b (w := W1.alloc (.cells #[.slice (some ⟨b, off, none⟩) n cap] 30)) (by simp) W D _ _ hD hK rfl rfl
        have t' := HT.out.later hb' (by omega)
        exact ⟨_, results_tmp2 rfl _ _ _, _, rfl, t'.below, t'.row, by omega⟩
      case stop =>
        rintro D c pre W _ _ h _
        exact h.elim
end Go.Proofs.YtobopjjmhginlaaGreatDoor
