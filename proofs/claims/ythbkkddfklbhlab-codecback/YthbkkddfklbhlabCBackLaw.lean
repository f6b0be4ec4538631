/- What this text proves: the walk of the statement CodecBack over this program: it answers true for any arguments, and writes nothing that was there. -/
import Derived.Test.YthbkkddfklbhlabRdBackPlain
import Derived.Test.YthbkkddfklbhlabCPuts
namespace Go.Proofs.Ythbkkddfklbhlab
open Go.RowKit

theorem u64_nat (n : Int) : ∃ U : Nat, IntKind.u64.wrap n = (U : Int) ∧ U < 18446744073709551616 := by
  have e : IntKind.u64.wrap n = n % 18446744073709551616 := by simp [IntKind.wrap, IntKind.bits, IntKind.signed]
  exact ⟨(n % 18446744073709551616).toNat, by rw [e]; omega, by omega⟩

set_option maxHeartbeats 2000000 in
theorem backWalk (n : Int) (sv mv : Value) (s more : List UInt8) (yes : Bool) (w : World) (hs0 : HB w sv s) (hm : HB w mv more) (hsz : more.length ≤ 140737488351232) :
    Calls Try.prog 4 #[.int .i64 n, sv, .bool yes, mv] w fun e w' => e = .returned (.bool true) ∧ Below w.heap.size w w' := by
  obtain ⟨p, c, rfl⟩ := hs0.shape
  obtain ⟨q, d, rfl⟩ := hm.shape
  obtain ⟨m, hm3⟩ : ∃ m, m = min s.length 3000 := ⟨_, rfl⟩
  have hls := hs0.len.2
  unfold maxLen at hls
  have k1 := fun w => run_upto (P := Try.prog) Try.underlying22 s_u8 p s.length c m (m : Int) rfl (by omega) w
  have hmin : min (s.length : Int) 3000 = (m : Int) := by omega
  have hs := hs0.front m (by omega)
  have hSl : (s.take m).length = m := by rw [List.length_take]; omega
  have hm4 : m ≤ 3000 := by omega
  generalize s.take m = S at *
  subst hSl
  obtain ⟨U, hU, hU2⟩ := u64_nat n
  obtain ⟨N, hN⟩ : ∃ N, N = U % 4611686018427387905 := ⟨_, rfl⟩
  have eN : (U : Int) % 4611686018427387905 = (N : Int) := by omega
  have hN2 : N ≤ 4611686018427387904 := by omega
  have hNI : (N : Int) ≤ 4611686018427387904 := by omega
  have hcl := clampN_nat N hN2
  have hc8 := cnt_le8 N (by omega)
  have hc9 := cnt_le8 S.length (by omega)
  obtain ⟨R1, hR1⟩ : ∃ R1, R1 = [] ++ numL N := ⟨_, rfl⟩
  obtain ⟨R2, hR2⟩ : ∃ R2, R2 = R1 ++ bytesL S := ⟨_, rfl⟩
  obtain ⟨R3, hR3⟩ : ∃ R3, R3 = R2 ++ flagL yes := ⟨_, rfl⟩
  have l1 : R1.length ≤ 9 := by rw [hR1, List.nil_append, numL_length]; omega
  have l2 : R2.length ≤ 3018 := by rw [hR2, List.length_append]; unfold bytesL; rw [List.length_append, numL_length]; omega
  have l3 : R3.length ≤ 3019 := by rw [hR3, List.length_append]; unfold flagL; simp; omega
  have hall : R3 ++ more = numL N ++ (bytesL S ++ (flagL yes ++ more)) := by rw [hR3, hR2, hR1]; simp
  have p1 := uintF_put N (bytesL S ++ (flagL yes ++ more)) 4611686018427387904 hN2 hNI
  have p2 := bytesF_put S (flagL yes ++ more) 3000 (by omega) (by omega)
  have p3 := flagF_put yes more
  rw [← hall] at p1
  have cU : ∀ W g, RR W g (R3 ++ more) 0 → Calls Try.prog 9 #[.pointer (some ⟨g, 0, none⟩), .int .i64 4611686018427387904] W fun x w' => x = .returned (.int .i64 (N : Int)) ∧ RR w' g (bytesL S ++ (flagL yes ++ more)) 0 ∧ Only g W w' := fun W g h => by
    have := uint_any g _ 4611686018427387904 W h
    unfold UintSaid at this
    rwa [p1] at this
  have hbl : (bytesL S ++ (flagL yes ++ more)).length ≤ 140737488355328 := by
    have := congrArg List.length hall
    rw [List.length_append, List.length_append] at this
    omega
  have cB : ∀ W g, RR W g (bytesL S ++ (flagL yes ++ more)) 0 → Calls Try.prog 12 #[.pointer (some ⟨g, 0, none⟩), .int .i64 3000] W fun x w' => ∃ p c, x = .returned (.slice p S.length c) ∧ HBN w' g (.slice p S.length c) S ∧ RR w' g (flagL yes ++ more) 0 ∧ Only g W w' := fun W g h => by
    have := bytes_any g _ 3000 W h hbl
    unfold BytesSaid at this
    rwa [p2] at this
  have cF : ∀ W g, RR W g (flagL yes ++ more) 0 → Calls Try.prog 14 #[.pointer (some ⟨g, 0, none⟩)] W fun x w' => x = .returned (.bool yes) ∧ RR w' g more 0 ∧ Only g W w' := fun W g h => by
    have := flag_any g _ W h
    unfold FlagSaid at this
    rwa [p3] at this
  have q1 := cuint_any _ [] (N : Int) w (HB.nil w) (by simp)
  rw [hcl, ← hR1] at q1
  have q2 : ∀ W v, HB W v R1 → HB W (.slice p S.length c) S → Calls Try.prog 22 #[v, .slice p S.length c] W fun e w' => ∃ p c, e = .returned (.slice p R2.length c) ∧ w'.ownsRow W.heap.size 5 1 (.slice p R2.length c) R2.length (bcs R2) ∧ Below W.heap.size W w' := fun W v h1 h2 => by
    have := cbytes_any v _ R1 S W h1 h2 (by omega)
    rwa [← hR2] at this
  have q3 : ∀ W v, HB W v R2 → Calls Try.prog 21 #[v, .bool yes] W fun e w' => ∃ p c, e = .returned (.slice p R3.length c) ∧ w'.ownsRow W.heap.size 5 1 (.slice p R3.length c) R3.length (bcs R3) ∧ Below W.heap.size W w' := fun W v h1 => by
    have := cflag_any v R2 yes W h1 (by omega)
    rwa [← hR3] at this
  clear hall p1 p2 p3 hR1 hR2 hR3 hN hcl hc8 hc9 hbl hs0 hm3 hls
  generalize bytesL S ++ (flagL yes ++ more) = T1 at *
  generalize flagL yes ++ more = T2 at *
  go_enter Try.func4, Try.ntmps4
  go_wp2_with fail
  refine q1.mono ?_
  rintro e w1 ⟨p1, c1, rfl, o1, hb1⟩
  have h1 := HB.of_owns o1
  clear q1 o1 k1 hmin eN hU
  go_wp2_with fail
  refine (q2 _ _ h1 (hs.later hb1)).mono ?_
  rintro e w2 ⟨p2, c2, rfl, o2, hb2⟩
  have hb02 := hb1.trans (hb2.mono hb1.size)
  have h2 := HB.of_owns o2
  clear q2 o2 h1 hb1 hb2
  go_wp2_with fail
  refine (q3 _ _ h2).mono ?_
  rintro e w3 ⟨p3, c3, rfl, o3, hb3⟩
  have hb03 := hb02.trans (hb3.mono hb02.size)
  have hm3 := hm.later hb03
  have hs2 := hb02.size
  have hs3 := hb3.size
  clear q3 h2
  go_wp2_with (first | (at_builtin; refine wpList_append_hb rfl (.tmp 24) (.tmp 25) 22 rfl w2.heap.size 5 Try.underlying22 i_u8 _ _ _ rfl o3 _ _ _ more rfl hm3 ?sa ?sb ?_))
  case sa => omega
  case sb => exact hs3
  intro v4 w4 o4 hgrow4
  have hb4 : Below w.heap.size w w4 := hb03.grown hgrow4 hb03.size (fun k hk => Nat.le_trans hs2 (o3.lt k hk).1)
  rw [← bcs_append] at o4
  have h4 := HB.of_owns o4
  obtain ⟨p4, c4, rfl⟩ := owns_shape o4
  clear o4 hgrow4 o3 hm3 hb3 hb03 hb02
  go_wp2_with fail
  refine (open_any _ (R3 ++ more) _ h4 (by rw [List.length_append]; omega)).mono ?_
  rintro e w5 ⟨g, hg, rfl, r5, hb5⟩
  have hb05 := hb4.trans (hb5.mono hb4.size)
  have hgw : w.heap.size ≤ g := Nat.le_trans hb4.size hg
  clear h4 hb5 hb4
  go_wp2_with fail
  refine (cU _ _ r5).mono ?_
  rintro e w6 ⟨rfl, r6, o6⟩
  have hb06 := hb05.trans (o6.below hgw)
  clear cU r5 o6 hb05
  go_wp2_with fail
  refine (cB _ _ r6).mono ?_
  rintro e w7 ⟨p7, c7, rfl, t7, r7, o7⟩
  have hb07 := hb06.trans (o7.below hgw)
  clear cB r6 o7 hb06
  go_wp2_with fail
  refine (equal_t _ _ S S _ t7.1 (hs.later hb07) rfl).mono ?_
  rintro e w8 ⟨rfl, rfl⟩
  clear t7
  go_wp2_with fail
  refine (cF _ _ r7).mono ?_
  rintro e w9 ⟨rfl, r9, o9⟩
  have hb09 := hb07.trans (o9.below hgw)
  have hyy : (yes == yes) = true := by simp
  clear cF r7 o9 hb07
  go_wp2_with fail
  refine (rr_err g more 0 _ r9).mono ?_
  rintro e w10 ⟨rfl, rfl⟩
  go_wp2_with fail
  refine (rr_left g more 0 _ r9).mono ?_
  rintro e w11 ⟨rfl, rfl⟩
  go_wp2_with fail
  refine (codecAwake_any _).mono ?_
  rintro e w12 ⟨rfl, hb12⟩
  have hb012 := hb09.trans (hb12.mono hb09.size)
  go_wp2
  go_ret
  exact ⟨rfl, hb012⟩

end Go.Proofs.Ythbkkddfklbhlab
