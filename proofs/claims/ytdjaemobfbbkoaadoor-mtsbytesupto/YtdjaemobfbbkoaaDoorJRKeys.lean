/- What this text proves: the walks of the document's Key and Sign (annalsref05) over this program. What this text proves: the walks of the document's key (annalsref05) and pair (annalsref06) over this program, with the block that their answer lies in. -/
import Derived.Test.YtdjaemobfbbkoaaDoorJRWots
import Derived.Test.YtdjaemobfbbkoaaDoorJWSign
import Derived.Test.YtdjaemobfbbkoaaDoorJHashT
import Derived.Test.YtdjaemobfbbkoaaDoorJBackP
namespace Go.Proofs.YtdjaemobfbbkoaaDoor
open Go.RowKit

theorem rcanB_true {size index : Int} {m : Nat} (h : rcanB size index m = true) : 1 ≤ size ∧ size ≤ 32 ∧ 0 ≤ index ∧ index < 256 ∧ m ≤ 64 := by
  simp [rcanB, canB] at h
  omega

set_option maxRecDepth 100000 in
set_option maxHeartbeats 4000000 in
theorem rkey_ok (n : Nat) (index : Int) (v : Value) (seed : List UInt8) (w : World) (h : HB w v seed) (hc : rcanB n index seed.length = true) :
    Calls Tryd.prog 42 #[.int .i64 (n : Int), v, .int .i64 index] w fun e w' => ∃ p c, e = .returned (.tuple #[.slice p (keyW n seed index).length c, .int .i64 0]) ∧ HB w' (.slice p (keyW n seed index).length c) (keyW n seed index) ∧ Below w.heap.size w w' := by
  obtain ⟨q1, q2, q3, q4, q5⟩ := rcanB_true hc
  obtain ⟨p, c, rfl⟩ := h.shape
  have hC := fun w' => rcan_any n index p seed.length c w' (by omega)
  rw [hc] at hC
  have HS : Hid (∀ (i : Nat) w', HB w' (.slice p seed.length c) seed → Calls Tryd.prog 55 #[.int .i64 (n : Int), .slice p seed.length c, .int .i64 index, .int .i64 (i : Int)] w' fun e w'' => ∃ p c, e = .returned (.slice p (secretF n seed index i).length c) ∧ HB w'' (.slice p (secretF n seed index i).length c) (secretF n seed index i) ∧ Below w'.heap.size w' w'') := fun i w' h' => rsecret_ok n index i (.slice p seed.length c) seed w' h' hc
  have hCh := fun (i : Nat) v w' h' => rchain_any n index i 0 3 v (secretF n seed index i) w' h' (by have := hashF_len n 6 [seed, numB index, numB i]; unfold secretF; omega) (by omega)
  have HCh : Hid (∀ (i : Nat) v w', HB w' v (secretF n seed index i) → Calls Tryd.prog 54 #[.int .i64 (n : Int), v, .int .i64 index, .int .i64 (i : Int), .int .i64 0, .int .i64 3] w' fun e w'' => ∃ p c, e = .returned (.slice p (endK n seed index i).length c) ∧ HB w'' (.slice p (endK n seed index i).length c) (endK n seed index i) ∧ Below w'.heap.size w' w'') := hCh
  have hKh := fun v w' h' => rkeyh_any n index v (endsF (endK n seed index) (4 * n + 5)) w' h'
  have HKh : Hid (∀ v w', HB w' v (endsF (endK n seed index) (4 * n + 5)) → Calls Tryd.prog 66 #[.int .i64 (n : Int), .int .i64 index, v] w' fun e w'' => ∃ p c, e = .returned (.slice p (keyW n seed index).length c) ∧ HB w'' (.slice p (keyW n seed index).length c) (keyW n seed index) ∧ Below w'.heap.size w' w'') := hKh
  have HEL : Hid (∀ k, (endsF (endK n seed index) k).length ≤ k * n) := fun k => endsF_len (endK n seed index) n (fun i => endK_le n (by omega) seed index i) k
  have HEn : Hid (∀ i, (endK n seed index i).length ≤ n) := fun i => endK_le n (by omega) seed index i
  have HE1 : Hid (∀ k, endsF (endK n seed index) (k + 1) = endsF (endK n seed index) k ++ endK n seed index k) := fun _ => rfl
  have HE0 : Hid (endsF (endK n seed index) 0 = []) := rfl
  clear hCh hKh hc
  generalize endsF (endK n seed index) = EE at *
  generalize endK n seed index = E at *
  generalize keyW n seed index = K at *
  go_enter Tryd.func42, Tryd.ntmps42
  go_wp2_with fail
  refine (hC _).mono ?_
  rintro e w1 ⟨rfl, hw1⟩
  have hw2 := hw1.symm
  clear hw1
  subst hw2
  go_wp2
  go_loopw [8, 18] (fun v i wr => ∃ k : Nat, k ≤ 4 * n + 5 ∧ i = .int .i64 k ∧ wr.ownsRow w.heap.size 5 1 v (EE k).length (bcs (EE k)) ∧ Below w.heap.size w wr) (fun _ i _ => 4 * n + 5 - (intOf i).toNat)
  case atStart => exact ⟨0, Nat.zero_le _, rfl, by rw [HE0.out]; exact World.ownsRow_nil _ _ _ _, Below.refl _ _⟩
  case round =>
    obtain ⟨k, hk, rfl, hown, hbe⟩ := hrel
    by_cases hlt : k < 4 * n + 5
    · have hlt2 : (k : Int) < 4 * (n : Int) + 5 := by omega
      have hEk := HEL.out k
      have hEn := HEn.out k
      have hkn : k * n ≤ 5000 := by
        have := Nat.mul_le_mul (show k ≤ 133 by omega) (show n ≤ 32 by omega)
        omega
      have hS := HS.out k
      have hCh := HCh.out k
      have HZ : Hid (EE (k + 1) = EE k ++ E k) := HE1.out k
      generalize E k = Z at *
      generalize hX : EE k = X at *
      have HX : Hid (EE k = X) := hX
      clear hX
      generalize secretF (n : Int) seed index (k : Int) = S at *
      have hsz := hbe.size
      go_wp2_with fail
      refine (hS _ (h.later hbe)).mono ?_
      rintro e w3 ⟨p3, c3, rfl, h3, hb3⟩
      have hown3 := owns_later hown hb3
      have hb03 := hbe.trans (hb3.mono hsz)
      clear hown hb3 hS
      go_wp2_with fail
      refine (hCh _ _ h3).mono ?_
      rintro e w4 ⟨p4, c4, rfl, h4, hb4⟩
      have hown4 := owns_later hown3 hb4
      have hb04 := hb03.trans (hb4.mono hb03.size)
      have hsz4 := hb04.size
      clear hown3 hb4 hCh h3 hb03
      go_wp2_with (first | (at_builtin; refine wpList_append_hb rfl (.tmp 21) (.tmp 30) 22 rfl w.heap.size 5 Tryd.underlying22 i_u8 _ _ _ rfl hown4 _ _ _ Z rfl h4 ?sa ?sb ?_))
      case sa => omega
      case sb => omega
      intro v5 w5 hown5 hgrow5
      have hb5 : Below w.heap.size w w5 := hb04.grown hgrow5 hsz4 (fun k hk => (hown4.lt k hk).1)
      have hown6 : w5.ownsRow w.heap.size 5 1 v5 (EE (k + 1)).length (bcs (EE (k + 1))) := by
        rw [HZ.out, List.length_append, bcs_append]
        exact hown5
      clear hown4 hown5 hgrow5 hb04 h4
      go_wp2
      go_roundw
      case rel => first | exact ⟨k + 1, by omega, by go_num, hown6, hb5⟩ | ((repeat apply Exists.intro); exact ⟨⟨k + 1, by omega, by go_num, hown6, hb5⟩, rfl⟩)
      case measure => simp [intOf]; omega
    · obtain rfl : k = 4 * n + 5 := by omega
      have h2 := HB.of_owns hown
      obtain ⟨p2, c2, rfl⟩ := h2.shape
      have hKh := HKh.out
      generalize EE (4 * n + 5) = Z at *
      clear hown
      go_wp2_with fail
      refine (hKh _ _ h2).mono ?_
      rintro e w3 ⟨p3, c3, rfl, h3, hb3⟩
      have hb03 := hbe.trans (hb3.mono hbe.size)
      go_wp2
      go_ret2
      exact ⟨_, _, rfl, h3, hb03⟩

set_option maxRecDepth 100000 in
set_option maxHeartbeats 400000 in
theorem rkey_err (size index : Int) (v : Value) (seed : List UInt8) (w : World) (h : HB w v seed) (hc : rcanB size index seed.length = false) :
    Calls Tryd.prog 42 #[.int .i64 size, v, .int .i64 index] w fun e w' => e = .returned (.tuple #[.slice none 0 0, .int .i64 1]) ∧ w' = w := by
  have hm := h.len_le
  unfold maxLen at hm
  obtain ⟨p, c, rfl⟩ := h.shape
  have hC := fun w' => rcan_any size index p seed.length c w' (by omega)
  rw [hc] at hC
  go_enter Tryd.func42, Tryd.ntmps42
  go_wp2_with fail
  refine (hC _).mono ?_
  rintro e w1 ⟨rfl, hw1⟩
  subst hw1
  go_wp2
  go_ret2
  exact ⟨rfl, rfl⟩

end Go.Proofs.YtdjaemobfbbkoaaDoor

namespace Go.Proofs.YtdjaemobfbbkoaaDoor
open Go.RowKit

set_option maxRecDepth 100000 in
set_option maxHeartbeats 1000000 in
theorem rkeyh_ty (size index : Int) (v : Value) (x : List UInt8) (w : World) (h : HB w v x) :
    Calls Tryd.prog 66 #[.int .i64 size, .int .i64 index, v] w fun e w' => ∃ p c, e = .returned (.slice p (hashF size 8 [numB index, x]).length c) ∧ HB w' (.slice p (hashF size 8 [numB index, x]).length c) (hashF size 8 [numB index, x]) ∧ Below w.heap.size w w' ∧ TB w' (.slice p (hashF size 8 [numB index, x]).length c) := by
  obtain ⟨p, c, rfl⟩ := h.shape
  obtain ⟨F, hF⟩ : ∃ F, F = hashF size 8 [numB index, x] := ⟨_, rfl⟩
  have HF : Hid (F = hashF size 8 [numB index, x]) := hF
  rw [← hF]
  clear hF
  have hA := fun w' => rnumber_to index w'
  generalize numB index = A at *
  go_enter Tryd.func66, Tryd.ntmps66
  go_wp2_with fail
  refine (hA _).mono ?_
  rintro e w1 ⟨p1, c1, rfl, h1, hb1⟩
  have h01 := h.later hb1
  clear h hA
  go_wp2_with fail
  have hbA : Below w.heap.size w (w1.alloc (.cells #[.slice p1 8 c1, .slice p x.length c] 22)) := hb1.alloc hb1.size _
  refine (rhash_toT size 8 _ [A, x] _ (by simp) (by decide) (PA.lit w1 22 [_, _] _ 2 rfl rfl (by decide) (two_hb h1 h01))).mono ?_
  rintro e w3 ⟨p3, c3, rfl, h3, hb3, t3⟩
  rw [← HF.out] at h3 t3 ⊢
  have hb03 : Below w.heap.size w w3 := hbA.trans (hb3.mono hbA.size)
  go_wp2
  go_ret
  exact ⟨_, _, rfl, h3, hb03, t3⟩

set_option maxRecDepth 100000 in
set_option maxHeartbeats 4000000 in
theorem rkey_ty (n : Nat) (index : Int) (v : Value) (seed : List UInt8) (w : World) (h : HB w v seed) (hc : rcanB n index seed.length = true) :
    Calls Tryd.prog 42 #[.int .i64 (n : Int), v, .int .i64 index] w fun e w' => ∃ p c, e = .returned (.tuple #[.slice p (keyW n seed index).length c, .int .i64 0]) ∧ HB w' (.slice p (keyW n seed index).length c) (keyW n seed index) ∧ Below w.heap.size w w' ∧ TB w' (.slice p (keyW n seed index).length c) := by
  obtain ⟨q1, q2, q3, q4, q5⟩ := rcanB_true hc
  obtain ⟨p, c, rfl⟩ := h.shape
  have hC := fun w' => rcan_any n index p seed.length c w' (by omega)
  rw [hc] at hC
  have HS : Hid (∀ (i : Nat) w', HB w' (.slice p seed.length c) seed → Calls Tryd.prog 55 #[.int .i64 (n : Int), .slice p seed.length c, .int .i64 index, .int .i64 (i : Int)] w' fun e w'' => ∃ p c, e = .returned (.slice p (secretF n seed index i).length c) ∧ HB w'' (.slice p (secretF n seed index i).length c) (secretF n seed index i) ∧ Below w'.heap.size w' w'') := fun i w' h' => rsecret_ok n index i (.slice p seed.length c) seed w' h' hc
  have hCh := fun (i : Nat) v w' h' => rchain_any n index i 0 3 v (secretF n seed index i) w' h' (by have := hashF_len n 6 [seed, numB index, numB i]; unfold secretF; omega) (by omega)
  have HCh : Hid (∀ (i : Nat) v w', HB w' v (secretF n seed index i) → Calls Tryd.prog 54 #[.int .i64 (n : Int), v, .int .i64 index, .int .i64 (i : Int), .int .i64 0, .int .i64 3] w' fun e w'' => ∃ p c, e = .returned (.slice p (endK n seed index i).length c) ∧ HB w'' (.slice p (endK n seed index i).length c) (endK n seed index i) ∧ Below w'.heap.size w' w'') := hCh
  have hKh := fun v w' h' => rkeyh_ty n index v (endsF (endK n seed index) (4 * n + 5)) w' h'
  have HKh : Hid (∀ v w', HB w' v (endsF (endK n seed index) (4 * n + 5)) → Calls Tryd.prog 66 #[.int .i64 (n : Int), .int .i64 index, v] w' fun e w'' => ∃ p c, e = .returned (.slice p (keyW n seed index).length c) ∧ HB w'' (.slice p (keyW n seed index).length c) (keyW n seed index) ∧ Below w'.heap.size w' w'' ∧ TB w'' (.slice p (keyW n seed index).length c)) := hKh
  have HEL : Hid (∀ k, (endsF (endK n seed index) k).length ≤ k * n) := fun k => endsF_len (endK n seed index) n (fun i => endK_le n (by omega) seed index i) k
  have HEn : Hid (∀ i, (endK n seed index i).length ≤ n) := fun i => endK_le n (by omega) seed index i
  have HE1 : Hid (∀ k, endsF (endK n seed index) (k + 1) = endsF (endK n seed index) k ++ endK n seed index k) := fun _ => rfl
  have HE0 : Hid (endsF (endK n seed index) 0 = []) := rfl
  clear hCh hKh hc
  generalize endsF (endK n seed index) = EE at *
  generalize endK n seed index = E at *
  generalize keyW n seed index = K at *
  go_enter Tryd.func42, Tryd.ntmps42
  go_wp2_with fail
  refine (hC _).mono ?_
  rintro e w1 ⟨rfl, hw1⟩
  have hw2 := hw1.symm
  clear hw1
  subst hw2
  go_wp2
  go_loopw [8, 18] (fun v i wr => ∃ k : Nat, k ≤ 4 * n + 5 ∧ i = .int .i64 k ∧ wr.ownsRow w.heap.size 5 1 v (EE k).length (bcs (EE k)) ∧ Below w.heap.size w wr) (fun _ i _ => 4 * n + 5 - (intOf i).toNat)
  case atStart => exact ⟨0, Nat.zero_le _, rfl, by rw [HE0.out]; exact World.ownsRow_nil _ _ _ _, Below.refl _ _⟩
  case round =>
    obtain ⟨k, hk, rfl, hown, hbe⟩ := hrel
    by_cases hlt : k < 4 * n + 5
    · have hlt2 : (k : Int) < 4 * (n : Int) + 5 := by omega
      have hEk := HEL.out k
      have hEn := HEn.out k
      have hkn : k * n ≤ 5000 := by
        have := Nat.mul_le_mul (show k ≤ 133 by omega) (show n ≤ 32 by omega)
        omega
      have hS := HS.out k
      have hCh := HCh.out k
      have HZ : Hid (EE (k + 1) = EE k ++ E k) := HE1.out k
      generalize E k = Z at *
      generalize hX : EE k = X at *
      have HX : Hid (EE k = X) := hX
      clear hX
      generalize secretF (n : Int) seed index (k : Int) = S at *
      have hsz := hbe.size
      go_wp2_with fail
      refine (hS _ (h.later hbe)).mono ?_
      rintro e w3 ⟨p3, c3, rfl, h3, hb3⟩
      have hown3 := owns_later hown hb3
      have hb03 := hbe.trans (hb3.mono hsz)
      clear hown hb3 hS
      go_wp2_with fail
      refine (hCh _ _ h3).mono ?_
      rintro e w4 ⟨p4, c4, rfl, h4, hb4⟩
      have hown4 := owns_later hown3 hb4
      have hb04 := hb03.trans (hb4.mono hb03.size)
      have hsz4 := hb04.size
      clear hown3 hb4 hCh h3 hb03
      go_wp2_with (first | (at_builtin; refine wpList_append_hb rfl (.tmp 21) (.tmp 30) 22 rfl w.heap.size 5 Tryd.underlying22 i_u8 _ _ _ rfl hown4 _ _ _ Z rfl h4 ?sa ?sb ?_))
      case sa => omega
      case sb => omega
      intro v5 w5 hown5 hgrow5
      have hb5 : Below w.heap.size w w5 := hb04.grown hgrow5 hsz4 (fun k hk => (hown4.lt k hk).1)
      have hown6 : w5.ownsRow w.heap.size 5 1 v5 (EE (k + 1)).length (bcs (EE (k + 1))) := by
        rw [HZ.out, List.length_append, bcs_append]
        exact hown5
      clear hown4 hown5 hgrow5 hb04 h4
      go_wp2
      go_roundw
      case rel => first | exact ⟨k + 1, by omega, by go_num, hown6, hb5⟩ | ((repeat apply Exists.intro); exact ⟨⟨k + 1, by omega, by go_num, hown6, hb5⟩, rfl⟩)
      case measure => simp [intOf]; omega
    · obtain rfl : k = 4 * n + 5 := by omega
      have h2 := HB.of_owns hown
      obtain ⟨p2, c2, rfl⟩ := h2.shape
      have hKh := HKh.out
      generalize EE (4 * n + 5) = Z at *
      clear hown
      go_wp2_with fail
      refine (hKh _ _ h2).mono ?_
      rintro e w3 ⟨p3, c3, rfl, h3, hb3, t3⟩
      have hb03 := hbe.trans (hb3.mono hbe.size)
      go_wp2
      go_ret2
      exact ⟨_, _, rfl, h3, hb03, t3⟩

set_option maxRecDepth 100000 in
set_option maxHeartbeats 1000000 in
theorem rpair_ty (size level place : Int) (a b : Value) (x y : List UInt8) (w : World) (ha : HB w a x) (hb : HB w b y) :
    Calls Tryd.prog 43 #[.int .i64 size, .int .i64 level, .int .i64 place, a, b] w fun e w' => ∃ p c, e = .returned (.slice p (hashF size 9 [numB level, numB place, x, y]).length c) ∧ HB w' (.slice p (hashF size 9 [numB level, numB place, x, y]).length c) (hashF size 9 [numB level, numB place, x, y]) ∧ Below w.heap.size w w' ∧ TB w' (.slice p (hashF size 9 [numB level, numB place, x, y]).length c) := by
  obtain ⟨p, c, rfl⟩ := ha.shape
  obtain ⟨q, d, rfl⟩ := hb.shape
  obtain ⟨F, hF⟩ : ∃ F, F = hashF size 9 [numB level, numB place, x, y] := ⟨_, rfl⟩
  have HF : Hid (F = hashF size 9 [numB level, numB place, x, y]) := hF
  rw [← hF]
  clear hF
  have hA := fun w' => rnumber_to level w'
  have hB := fun w' => rnumber_to place w'
  generalize numB level = A at *
  generalize numB place = B at *
  go_enter Tryd.func43, Tryd.ntmps43
  go_wp2_with fail
  refine (hA _).mono ?_
  rintro e w1 ⟨p1, c1, rfl, h1, hb1⟩
  go_wp2_with fail
  refine (hB _).mono ?_
  rintro e w2 ⟨p2, c2, rfl, h2, hb2⟩
  have hb02 := hb1.trans (hb2.mono hb1.size)
  have ka := ha.later hb02
  have kb := hb.later hb02
  have k1 := h1.later hb2
  clear ha hb h1 hb1 hb2 hA hB
  go_wp2_with fail
  have hbA : Below w.heap.size w (w2.alloc (.cells #[.slice p1 8 c1, .slice p2 8 c2, .slice p x.length c, .slice q y.length d] 22)) := hb02.alloc hb02.size _
  refine (rhash_toT size 9 _ [A, B, x, y] _ (by simp) (by decide) (PA.lit w2 22 [_, _, _, _] _ 4 rfl rfl (by decide) (four_hb k1 h2 ka kb))).mono ?_
  rintro e w3 ⟨p3, c3, rfl, h3, hb3, t3⟩
  rw [← HF.out] at h3 t3 ⊢
  have hb03 : Below w.heap.size w w3 := hbA.trans (hb3.mono hbA.size)
  go_wp2
  go_ret
  exact ⟨_, _, rfl, h3, hb03, t3⟩

end Go.Proofs.YtdjaemobfbbkoaaDoor
