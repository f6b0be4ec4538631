/- What this text proves: the walk of the statement BitsApart over this program: it answers true for any arguments, and writes nothing that was there. -/
import Derived.Test.YthbkkddfklbhlaaOrder
import Derived.Test.YthbkkddfklbhlaaBegins
import Derived.Test.YthbkkddfklbhlaaBitsAwake
namespace Go.Proofs.Ythbkkddfklbhlaa
open Go.RowKit

theorem cmp_turn : ∀ x y : List UInt8, Lib.compareBytes y x = - Lib.compareBytes x y
  | [], [] => by simp [Lib.compareBytes]
  | [], _ :: _ => by simp [Lib.compareBytes]
  | _ :: _, [] => by simp [Lib.compareBytes]
  | a :: x, b :: y => by
    have ih := cmp_turn x y
    unfold Lib.compareBytes
    by_cases h1 : a < b
    · have h2 : ¬ b < a := fun h => by have := UInt8.lt_iff_toNat_lt.1 h; have := UInt8.lt_iff_toNat_lt.1 h1; omega
      simp [h1, h2]
    · by_cases h2 : b < a
      · simp [h1, h2]
      · simp [h1, h2, ih]

set_option maxHeartbeats 1000000 in
theorem partWalk (x y : Value) (a b : List UInt8) (w : World) (ha0 : HB w x a) (hb0 : HB w y b) :
    Calls Try.prog 6 #[x, y] w fun e w' => e = .returned (.bool true) ∧ Below w.heap.size w w' := by
  obtain ⟨p, c, rfl⟩ := ha0.shape
  obtain ⟨q, d, rfl⟩ := hb0.shape
  obtain ⟨n, hn⟩ : ∃ n, n = min a.length 255 := ⟨_, rfl⟩
  obtain ⟨m, hm⟩ : ∃ m, m = min b.length 255 := ⟨_, rfl⟩
  have hla := ha0.len.2
  have hlb := hb0.len.2
  unfold maxLen at hla hlb
  have k1 := fun w => run_upto (P := Try.prog) Try.underlying22 s_u8 p a.length c n (n : Int) rfl (by omega) w
  have k2 := fun w => run_upto (P := Try.prog) Try.underlying22 s_u8 q b.length d m (m : Int) rfl (by omega) w
  have ha := ha0.front n (by omega)
  have hb := hb0.front m (by omega)
  have hmin1 : min (a.length : Int) 255 = (n : Int) := by omega
  have hmin2 : min (b.length : Int) 255 = (m : Int) := by omega
  have hra : (a.take n).length ≤ 255 := by rw [List.length_take]; omega
  have hrb : (b.take m).length ≤ 255 := by rw [List.length_take]; omega
  generalize a.take n = A at *
  generalize b.take m = B at *
  have ha' : ∀ W, Below w.heap.size w W → HB W (.slice p n c) A := fun W h => ha.later h
  have hb' : ∀ W, Below w.heap.size w W → HB W (.slice q m d) B := fun W h => hb.later h
  have cA : ∀ W, Below w.heap.size w W → Calls Try.prog 10 #[.slice p n c] W fun e w' => ∃ p1 c1, e = .returned (.slice p1 (keyF A).length c1) ∧ HB w' (.slice p1 (keyF A).length c1) (keyF A) ∧ Below W.heap.size W w' := fun W h => key_any _ A W (ha' W h)
  have cB : ∀ W, Below w.heap.size w W → Calls Try.prog 10 #[.slice q m d] W fun e w' => ∃ p1 c1, e = .returned (.slice p1 (keyF B).length c1) ∧ HB w' (.slice p1 (keyF B).length c1) (keyF B) ∧ Below W.heap.size W w' := fun W h => key_any _ B W (hb' W h)
  have cO := fun W (h : Below w.heap.size w W) => order_any _ _ A B W (ha' _ h) (hb' _ h)
  have cO' := fun W (h : Below w.heap.size w W) => order_any _ _ B A W (hb' _ h) (ha' _ h)
  have cC : ∀ (W : World) (u v : Value), HB W u (keyF A) → HB W v (keyF B) → Calls Try.prog 20 #[u, v] W fun e w' => e = .returned (.int .i64 (com (keyF A) (keyF B) : Int)) ∧ Below W.heap.size W w' := fun W u v h1 h2 => common_any u v _ _ W h1 h2 (by rw [keyF_length]; omega)
  have hlA : (keyF A).length ≤ 256 := by rw [keyF_length]; omega
  have hlB : (keyF B).length ≤ 256 := by rw [keyF_length]; omega
  have hcl := com_le (keyF A) (keyF B)
  by_cases he : A = B
  · have HE : Hid (A = B) := he
    have HN : Hid ((com (keyF A) (keyF B) : Int) = 8 * ((keyF A).length : Int)) := by
      show (com (keyF A) (keyF B) : Int) = 8 * ((keyF A).length : Int)
      rw [← he, com_self]
      omega
    have hC : Lib.compareBytes (keyF A) (keyF B) = 0 := by rw [← he, compare_self]
    rw [hC] at cO
    clear hC he cO'
    generalize com (keyF A) (keyF B) = N at *
    generalize keyF A = KA at *
    generalize keyF B = KB at *
    clear ha0 hb0 ha hb hn hm hla hlb hra hrb
    go_enter Try.func6, Try.ntmps6
    go_wp2
    go_quiet (fail)
    have hbe := below_drewN (Below.refl w.heap.size w) nq
    generalize w.drewN nq = w0 at *
    clear k1 k2 hmin1 hmin2
    go_wp2_with fail
    refine (cA _ hbe).mono ?_
    rintro e w1 ⟨p1, c1, rfl, j1, hb1⟩
    have hb01 := hbe.trans (hb1.mono hbe.size)
    go_wp2_with fail
    refine (cB _ hb01).mono ?_
    rintro e w2 ⟨p2, c2, rfl, j2, hb2⟩
    have hb02 := hb01.trans (hb2.mono hb01.size)
    have j12 := j1.later hb2
    clear j1 hb1 hb2 hb01 hbe cA cB
    go_wp2_with fail
    refine (cC _ _ _ j12 j2).mono ?_
    rintro e w3 ⟨rfl, hb3⟩
    have hb03 := hb02.trans (hb3.mono hb02.size)
    clear j12 j2 hb3 hb02 cC
    go_wp2_with fail
    refine (equal_t _ _ A B _ (ha' _ hb03) (hb' _ hb03) HE.out).mono ?_
    rintro e w4 ⟨rfl, rfl⟩
    go_wp2_with fail
    refine (cO _ hb03).mono ?_
    rintro e w5 ⟨rfl, hb5⟩
    have hb05 := hb03.trans (hb5.mono hb03.size)
    have hN := HN.out
    clear hb5 hb03 HN ha' hb' HE cO
    rw [hN]
    go_wp2_with fail
    refine (bitsAwake_any _).mono ?_
    rintro e w6 ⟨rfl, hb6⟩
    have hb06 := hb05.trans (hb6.mono hb05.size)
    go_wp2
    go_ret
    exact ⟨rfl, hb06⟩
  · have HE : Hid (A ≠ B) := he
    have hck := com_keyF A B hra hrb he
    have hC := compare_bit (keyF A) (keyF B) hck.1 hck.2
    have hT := cmp_turn (keyF A) (keyF B)
    have h0x := bitN_nonneg.2 hck.1
    have h0y := bitN_nonneg.2 hck.2
    have hrx := bitN_range (keyF A) (com (keyF A) (keyF B))
    have hry := bitN_range (keyF B) (com (keyF A) (keyF B))
    have cX : ∀ (W : World) (u : Value), HB W u (keyF A) → Calls Try.prog 12 #[u, .int .i64 (com (keyF A) (keyF B) : Int)] W fun e w' => e = .returned (.int .i64 (bitN (keyF A) (com (keyF A) (keyF B)))) ∧ w' = W := fun W u h => bit_nat _ _ _ W h (by omega)
    have cY : ∀ (W : World) (u : Value), HB W u (keyF B) → Calls Try.prog 12 #[u, .int .i64 (com (keyF A) (keyF B) : Int)] W fun e w' => e = .returned (.int .i64 (bitN (keyF B) (com (keyF A) (keyF B)))) ∧ w' = W := fun W u h => bit_nat _ _ _ W h (by omega)
    rw [hC] at cO
    rw [hT, hC] at cO'
    clear hC he hT hck
    generalize bitN (keyF A) (com (keyF A) (keyF B)) = X at *
    generalize bitN (keyF B) (com (keyF A) (keyF B)) = Y at *
    generalize com (keyF A) (keyF B) = N at *
    generalize keyF A = KA at *
    generalize keyF B = KB at *
    clear ha0 hb0 ha hb hn hm hla hlb hra hrb
    go_enter Try.func6, Try.ntmps6
    go_wp2
    go_quiet (fail)
    have hbe := below_drewN (Below.refl w.heap.size w) nq
    generalize w.drewN nq = w0 at *
    clear k1 k2 hmin1 hmin2
    go_wp2_with fail
    refine (cA _ hbe).mono ?_
    rintro e w1 ⟨p1, c1, rfl, j1, hb1⟩
    have hb01 := hbe.trans (hb1.mono hbe.size)
    go_wp2_with fail
    refine (cB _ hb01).mono ?_
    rintro e w2 ⟨p2, c2, rfl, j2, hb2⟩
    have hb02 := hb01.trans (hb2.mono hb01.size)
    have j12 := j1.later hb2
    clear j1 hb1 hb2 hb01 hbe cA cB
    go_wp2_with fail
    refine (cC _ _ _ j12 j2).mono ?_
    rintro e w3 ⟨rfl, hb3⟩
    have hb03 := hb02.trans (hb3.mono hb02.size)
    have j13 := j12.later hb3
    have j23 := j2.later hb3
    clear j12 j2 hb3 hb02 cC
    go_wp2_with fail
    refine (equal_f _ _ A B _ (ha' _ hb03) (hb' _ hb03) HE.out).mono ?_
    rintro e w4 ⟨rfl, rfl⟩
    clear ha' hb'
    go_wp2_with fail
    refine (cO _ hb03).mono ?_
    rintro e w5 ⟨rfl, hb5⟩
    have hb05 := hb03.trans (hb5.mono hb03.size)
    have j15 := j13.later hb5
    have j25 := j23.later hb5
    clear j13 j23 hb5 hb03
    go_wp2_with fail
    refine (cX _ _ j15).mono ?_
    rintro e w6 ⟨rfl, rfl⟩
    go_wp2_with fail
    refine (cY _ _ j25).mono ?_
    rintro e w7 ⟨rfl, rfl⟩
    go_wp2_with fail
    refine (cO' _ hb05).mono ?_
    rintro e w8 ⟨rfl, hb8⟩
    have hb08 := hb05.trans (hb8.mono hb05.size)
    have j18 := j15.later hb8
    have j28 := j25.later hb8
    clear j15 j25 hb8 hb05
    go_wp2_with fail
    refine (cO _ hb08).mono ?_
    rintro e w9 ⟨rfl, hb9⟩
    have hb09 := hb08.trans (hb9.mono hb08.size)
    have j19 := j18.later hb9
    have j29 := j28.later hb9
    clear j18 j28 hb9 hb08
    go_wp2_with fail
    refine (cX _ _ j19).mono ?_
    rintro e w10 ⟨rfl, rfl⟩
    go_wp2_with fail
    refine (cY _ _ j29).mono ?_
    rintro e w11 ⟨rfl, rfl⟩
    clear cX cY cO cO' j19 j29
    go_wp2_with fail
    refine (bitsAwake_any _).mono ?_
    rintro e w12 ⟨rfl, hb12⟩
    have hb012 := hb09.trans (hb12.mono hb09.size)
    go_wp2
    go_ret
    exact ⟨rfl, hb012⟩

end Go.Proofs.Ythbkkddfklbhlaa
