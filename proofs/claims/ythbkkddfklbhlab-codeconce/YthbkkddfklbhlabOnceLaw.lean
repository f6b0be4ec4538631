/- What this text proves: the walk of the statement CodecOnce over this program: it answers true for any bytes, and writes nothing that was there. -/
import Derived.Test.YthbkkddfklbhlabRdBackPlain
import Derived.Test.YthbkkddfklbhlabCPuts
namespace Go.Proofs.Ythbkkddfklbhlab
open Go.RowKit

theorem bytesF_fell (l : List UInt8) (most : Int) (h : (bytesF l most).1 ≠ 0) : (bytesF l most).2 = ([], []) := by
  revert h
  unfold bytesF
  generalize uintF l most = u
  obtain ⟨e, n, r⟩ := u
  simp only
  repeat' split
  all_goals simp

set_option maxHeartbeats 2000000 in
theorem onceWalk (v : Value) (l : List UInt8) (w : World) (h : HB w v l) (hsz : l.length ≤ 140737488351232) :
    Calls Try.prog 5 #[v] w fun e w' => e = .returned (.bool true) ∧ Below w.heap.size w w' := by
  obtain ⟨p, c, rfl⟩ := h.shape
  have hlen := h.len.2
  unfold maxLen at hlen
  have ko := open_any _ l w h (by omega)
  have b1 := uintF_back l 4611686018427387904
  have le1 := uintF_le l 4611686018427387904
  have f1 := uintF_fell l 4611686018427387904
  have c1 : ∀ W g, RR W g l 0 → Calls Try.prog 9 #[.pointer (some ⟨g, 0, none⟩), .int .i64 4611686018427387904] W (UintSaid g W l 4611686018427387904) := fun W g h => uint_any g _ 4611686018427387904 W h
  unfold UintSaid at c1
  generalize uintF l 4611686018427387904 = u1 at *
  obtain ⟨e1, N, r1⟩ := u1
  simp only at b1 le1 f1 c1
  by_cases he1 : e1 = 0
  · subst he1
    obtain ⟨q1, n1, _⟩ := b1 rfl
    have b2 := bytesF_back r1 1048576
    have f2 := bytesF_fell r1 1048576
    have c2 : ∀ W g, RR W g r1 0 → Calls Try.prog 12 #[.pointer (some ⟨g, 0, none⟩), .int .i64 1048576] W (BytesSaid g W r1 1048576) := fun W g h => bytes_any g _ 1048576 W h (by omega)
    unfold BytesSaid at c2
    generalize bytesF r1 1048576 = u2 at *
    obtain ⟨e2, S, r2⟩ := u2
    simp only at b2 f2 c2
    by_cases he2 : e2 = 0
    · subst he2
      obtain ⟨q2, n2⟩ := b2 rfl
      have b3 := flagF_back r2
      have c3 : ∀ W g, RR W g r2 0 → Calls Try.prog 14 #[.pointer (some ⟨g, 0, none⟩)] W (FlagSaid g W r2) := fun W g h => flag_any g _ W h
      unfold FlagSaid at c3
      generalize flagF r2 = u3 at *
      obtain ⟨e3, Y, r3⟩ := u3
      simp only at b3 c3
      by_cases he3 : e3 = 0
      · subst he3
        have q3 := b3 rfl
        obtain ⟨R1, hR1⟩ : ∃ R1, R1 = [] ++ numL N := ⟨_, rfl⟩
        obtain ⟨R2, hR2⟩ : ∃ R2, R2 = R1 ++ bytesL S := ⟨_, rfl⟩
        obtain ⟨R3, hR3⟩ : ∃ R3, R3 = R2 ++ flagL Y := ⟨_, rfl⟩
        have hall : l = R3 ++ r3 := by rw [hR3, hR2, hR1, q1, q2, q3]; simp
        have hcl := clampN_nat N n1
        have hc8 := cnt_le8 N (by omega)
        have hc9 := cnt_le8 S.length (by omega)
        have l1 : R1.length ≤ 9 := by rw [hR1, List.nil_append, numL_length]; omega
        have l2 : R2.length ≤ 1048600 := by rw [hR2, List.length_append]; unfold bytesL; rw [List.length_append, numL_length]; omega
        have hll : l.length = R3.length + r3.length := by rw [hall, List.length_append]
        have HT : Hid (R3 = l.take R3.length) := by show R3 = _; rw [hall, List.take_left]
        have p1 := cuint_any (.slice none 0 0) [] (N : Int)
        rw [hcl, ← hR1] at p1
        have p2 : ∀ W v u, HB W v R1 → HB W u S → Calls Try.prog 22 #[v, u] W fun e w' => ∃ p c, e = .returned (.slice p R2.length c) ∧ w'.ownsRow W.heap.size 5 1 (.slice p R2.length c) R2.length (bcs R2) ∧ Below W.heap.size W w' := fun W v u h1 h2 => by
          have := cbytes_any v u R1 S W h1 h2 (by omega)
          rwa [← hR2] at this
        have p3 : ∀ W v, HB W v R2 → Calls Try.prog 21 #[v, .bool Y] W fun e w' => ∃ p c, e = .returned (.slice p R3.length c) ∧ w'.ownsRow W.heap.size 5 1 (.slice p R3.length c) R3.length (bcs R3) ∧ Below W.heap.size W w' := fun W v h1 => by
          have := cflag_any v R2 Y W h1 (by omega)
          rwa [← hR3] at this
        have hle3 : (r3.length : Int) ≤ (l.length : Int) := by omega
        have hsub : (l.length : Int) - (r3.length : Int) = (R3.length : Int) := by omega
        have k1 := fun w => run_upto (P := Try.prog) Try.underlying22 s_u8 p l.length c R3.length (R3.length : Int) rfl (by omega) w
        have hfr := fun W (hW : HB W (.slice p l.length c) l) => hW.front R3.length (by omega)
        have HSL : Hid ((S.length : Int) ≤ 1048576) := n2
        clear b1 b2 b3 f1 f2 q1 q2 q3 hall hcl hR1 hR2 hR3 hc8 hc9 hll
        go_enter Try.func5, Try.ntmps5
        go_wp2_with fail
        refine ko.mono ?_
        rintro e w1 ⟨g, hg, rfl, r1', hb1⟩
        clear ko
        go_wp2_with fail
        refine (c1 _ _ r1').mono ?_
        rintro e w2 ⟨rfl, rr2, o2⟩
        have hb02 := hb1.trans (o2.below hg)
        clear c1 r1' o2 hb1
        go_wp2_with fail
        refine (c2 _ _ rr2).mono ?_
        rintro e w3 ⟨p3', c3', rfl, t3, rr3, o3⟩
        have hb03 := hb02.trans (o3.below hg)
        clear c2 rr2 o3 hb02
        go_wp2_with fail
        refine (c3 _ _ rr3).mono ?_
        rintro e w4 ⟨rfl, rr4, o4⟩
        have hb04 := hb03.trans (o4.below hg)
        have t4 := t3.only o4
        clear c3 rr3 o4 hb03 t3
        go_wp2_with fail
        refine (rr_err g r3 0 _ rr4).mono ?_
        rintro e w5 ⟨rfl, rfl⟩
        go_wp2_with fail
        refine (rr_left g r3 0 _ rr4).mono ?_
        rintro e w6 ⟨rfl, rfl⟩
        go_wp2_with fail
        refine (p1 _ (HB.nil _) (by simp)).mono ?_
        rintro e w7 ⟨p7, c7, rfl, ow7, hb7⟩
        have hb07 := hb04.trans (hb7.mono hb04.size)
        have t7 := t4.1.later hb7
        have rr7 := rr4.later hb7
        have h7 := HB.of_owns ow7
        clear p1 t4 rr4 hb7 hb04 ow7
        go_wp2_with fail
        refine (p2 _ _ _ h7 t7).mono ?_
        rintro e w8 ⟨p8, c8, rfl, ow8, hb8⟩
        have hb08 := hb07.trans (hb8.mono hb07.size)
        have rr8 := rr7.later hb8
        have h8 := HB.of_owns ow8
        clear p2 t7 rr7 hb8 hb07 ow8 h7
        go_wp2_with fail
        refine (p3 _ _ h8).mono ?_
        rintro e w9 ⟨p9, c9, rfl, ow9, hb9⟩
        have hb09 := hb08.trans (hb9.mono hb08.size)
        have rr9 := rr8.later hb9
        have h9 := HB.of_owns ow9
        clear p3 rr8 hb9 hb08 ow9 h8
        go_wp2_with fail
        refine (rr_left g r3 0 _ rr9).mono ?_
        rintro e w10 ⟨rfl, rfl⟩
        go_wp2_with fail
        refine (equal_t _ _ R3 (l.take R3.length) _ h9 (hfr _ (h.later hb09)) HT.out).mono ?_
        rintro e w11 ⟨rfl, rfl⟩
        go_wp2_with fail
        refine (codecAwake_any _).mono ?_
        rintro e w12 ⟨rfl, hb12⟩
        have hb012 := hb09.trans (hb12.mono hb09.size)
        go_wp2
        go_ret
        exact ⟨rfl, hb012⟩
      · have hd : (e3 == 0) = false := by simpa using he3
        clear b1 b2 b3 f1 f2 q1 q2
        go_enter Try.func5, Try.ntmps5
        go_wp2_with fail
        refine ko.mono ?_
        rintro e w1 ⟨g, hg, rfl, r1', hb1⟩
        clear ko
        go_wp2_with fail
        refine (c1 _ _ r1').mono ?_
        rintro e w2 ⟨rfl, rr2, o2⟩
        have hb02 := hb1.trans (o2.below hg)
        clear c1 r1' o2 hb1
        go_wp2_with fail
        refine (c2 _ _ rr2).mono ?_
        rintro e w3 ⟨p3', c3', rfl, t3, rr3, o3⟩
        have hb03 := hb02.trans (o3.below hg)
        clear c2 rr2 o3 hb02
        go_wp2_with fail
        refine (c3 _ _ rr3).mono ?_
        rintro e w4 ⟨rfl, rr4, o4⟩
        have hb04 := hb03.trans (o4.below hg)
        clear c3 rr3 o4 hb03 t3
        go_wp2_with fail
        refine (rr_err g r3 e3 _ rr4).mono ?_
        rintro e w5 ⟨rfl, rfl⟩
        go_wp2_with fail
        refine (codecAwake_any _).mono ?_
        rintro e w12 ⟨rfl, hb12⟩
        have hb012 := hb04.trans (hb12.mono hb04.size)
        go_wp2
        go_ret
        exact ⟨rfl, hb012⟩
    · have hd : (e2 == 0) = false := by simpa using he2
      clear b1 b2 f1 q1 f2
      go_enter Try.func5, Try.ntmps5
      go_wp2_with fail
      refine ko.mono ?_
      rintro e w1 ⟨g, hg, rfl, r1', hb1⟩
      clear ko
      go_wp2_with fail
      refine (c1 _ _ r1').mono ?_
      rintro e w2 ⟨rfl, rr2, o2⟩
      have hb02 := hb1.trans (o2.below hg)
      clear c1 r1' o2 hb1
      go_wp2_with fail
      refine (c2 _ _ rr2).mono ?_
      rintro e w3 ⟨p3', c3', rfl, t3, rr3, o3⟩
      have hb03 := hb02.trans (o3.below hg)
      clear c2 rr2 o3 hb02
      go_wp2_with fail
      refine (flag_stays g r2 e2 _ rr3 he2).mono ?_
      rintro e w4 ⟨rfl, rfl⟩
      go_wp2_with fail
      refine (rr_err g r2 e2 _ rr3).mono ?_
      rintro e w5 ⟨rfl, rfl⟩
      go_wp2_with fail
      refine (codecAwake_any _).mono ?_
      rintro e w12 ⟨rfl, hb12⟩
      have hb012 := hb03.trans (hb12.mono hb03.size)
      go_wp2
      go_ret
      exact ⟨rfl, hb012⟩
  · have hd : (e1 == 0) = false := by simpa using he1
    clear b1 f1
    go_enter Try.func5, Try.ntmps5
    go_wp2_with fail
    refine ko.mono ?_
    rintro e w1 ⟨g, hg, rfl, r1', hb1⟩
    clear ko
    go_wp2_with fail
    refine (c1 _ _ r1').mono ?_
    rintro e w2 ⟨rfl, rr2, o2⟩
    have hb02 := hb1.trans (o2.below hg)
    clear c1 r1' o2 hb1
    go_wp2_with fail
    refine (bytes_stays g r1 e1 1048576 _ rr2 he1).mono ?_
    rintro e w3 ⟨rfl, rfl⟩
    go_wp2_with fail
    refine (flag_stays g r1 e1 _ rr2 he1).mono ?_
    rintro e w4 ⟨rfl, rfl⟩
    go_wp2_with fail
    refine (rr_err g r1 e1 _ rr2).mono ?_
    rintro e w5 ⟨rfl, rfl⟩
    go_wp2_with fail
    refine (codecAwake_any _).mono ?_
    rintro e w12 ⟨rfl, hb12⟩
    have hb012 := hb02.trans (hb12.mono hb02.size)
    go_wp2
    go_ret
    exact ⟨rfl, hb012⟩

end Go.Proofs.Ythbkkddfklbhlab
