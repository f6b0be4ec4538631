/- What this text proves: the walks of the document's pair and Verify (annalsref06) over this program. What this text proves: the early refusals of the document's Verify (annalsref06) over this program. -/
import Derived.Test.YtpnginemjcphcabDoorJShaped
import Derived.Test.YtpnginemjcphcabDoorJRRecT
namespace Go.Proofs.YtpnginemjcphcabDoor
open Go.RowKit

set_option maxRecDepth 100000 in
set_option maxHeartbeats 1000000 in
theorem rpair_any (size level place : Int) (a b : Value) (x y : List UInt8) (w : World) (ha : HB w a x) (hb : HB w b y) :
    Calls Tryd.prog 34 #[.int .i64 size, .int .i64 level, .int .i64 place, a, b] w fun e w' => ∃ p c, e = .returned (.slice p (hashF size 9 [numB level, numB place, x, y]).length c) ∧ HB w' (.slice p (hashF size 9 [numB level, numB place, x, y]).length c) (hashF size 9 [numB level, numB place, x, y]) ∧ Below w.heap.size w w' := by
  obtain ⟨p, c, rfl⟩ := ha.shape
  obtain ⟨q, d, rfl⟩ := hb.shape
  obtain ⟨F, hF⟩ : ∃ F, F = hashF size 9 [numB level, numB place, x, y] := ⟨_, rfl⟩
  have HF : Hid (F = hashF size 9 [numB level, numB place, x, y]) := hF
  rw [← hF]
  clear hF
  have hA := fun w' => rnumber_to level w'
  have hB := fun w' => rnumber_to place w'
  generalize numB level = A at *
  generalize numB place = B at *
  go_enter Tryd.func34, Tryd.ntmps34
  go_wp2_with fail
  refine (hA _).mono ?_
  rintro e w1 ⟨p1, c1, rfl, h1, hb1⟩
  go_wp2_with fail
  refine (hB _).mono ?_
  rintro e w2 ⟨p2, c2, rfl, h2, hb2⟩
  have hb02 := hb1.trans (hb2.mono hb1.size)
  have ka := ha.later hb02
  have kb := hb.later hb02
  have k1 := h1.later hb2
  clear ha hb h1 hb1 hb2 hA hB
  go_wp2_with fail
  have hbA : Below w.heap.size w (w2.alloc (.cells #[.slice p1 8 c1, .slice p2 8 c2, .slice p x.length c, .slice q y.length d] 22)) := hb02.alloc hb02.size _
  refine (rhash_to size 9 _ [A, B, x, y] _ (by simp) (by decide) (PA.lit w2 22 [_, _, _, _] _ 4 rfl rfl (by decide) (four_hb k1 h2 ka kb))).mono ?_
  rintro e w3 ⟨p3, c3, rfl, h3, hb3⟩
  rw [← HF.out] at h3 ⊢
  have hb03 : Below w.heap.size w w3 := hbA.trans (hb3.mono hbA.size)
  go_wp2
  go_ret
  exact ⟨_, _, rfl, h3, hb03⟩

end Go.Proofs.YtpnginemjcphcabDoor

namespace Go.Proofs.YtpnginemjcphcabDoor
open Go.RowKit

set_option maxRecDepth 100000 in
set_option maxHeartbeats 4000000 in
theorem rver_err1 (size height idx : Int) (pv dv ca pa : Value) (ls ps : List (List UInt8)) (D pub : List UInt8) (w : World) (hpv : HB w pv pub) (hdv : HB w dv D) (hc : PA w ca ls) (hp : PA w pa ps)
    (hbad : ¬ (0 ≤ height ∧ height ≤ 8 ∧ withinB idx height.toNat = true ∧ ps.length = height.toNat)) :
    Calls Tryd.prog 20 #[.int .i64 size, pv, .int .i64 height, dv, .agg #[.int .i64 idx, ca, pa]] w fun e w' => e = .returned (.bool false) ∧ Below w.heap.size w w' := by
  have hpm := hp.shape
  obtain ⟨p, c, rfl⟩ := hc.shape
  obtain ⟨q, d, rfl⟩ := hp.shape
  obtain ⟨p1, c1, rfl⟩ := hpv.shape
  obtain ⟨p2, c2, rfl⟩ := hdv.shape
  have hpl := hp.len.2
  unfold maxLen at hpl
  have b1 := (Below.refl _ w).alloc (Nat.le_refl _) (.cells #[.int .i64 idx, .slice p ls.length c, .slice q ps.length d] 30)
  have s0 : (w.alloc (.cells #[.int .i64 idx, .slice p ls.length c, .slice q ps.length d] 30)).cell? ⟨w.heap.size, 0, none⟩ = some (.int .i64 idx) := by
    rw [cell_of_row _ _ 0 _ _ _ (heap_alloc_new w _)]
    rfl
  have s2 : (w.alloc (.cells #[.int .i64 idx, .slice p ls.length c, .slice q ps.length d] 30)).cell? ⟨w.heap.size, 2, none⟩ = some (.slice q ps.length d) := by
    rw [cell_of_row _ _ 2 _ _ _ (heap_alloc_new w _)]
    rfl
  go_enter Tryd.func20, Tryd.ntmps20
  by_cases h1 : height < 0
  · have hd1 : decide (height < 0) = true := by simpa using h1
    clear hbad
    go_wp2
    go_region
    all_goals (go_wp2; go_ret; exact ⟨rfl, b1.drew⟩)
  · have hd1 : decide (height < 0) = false := by simpa using h1
    by_cases h2 : 8 < height
    · have hd2 : decide (8 < height) = true := by simpa using h2
      clear hbad
      go_wp2
      go_region
      all_goals (go_wp2; go_ret; exact ⟨rfl, b1.drew⟩)
    · have hd2 : decide (8 < height) = false := by simpa using h2
      obtain ⟨h, rfl⟩ : ∃ h : Nat, height = (h : Int) := ⟨height.toNat, by omega⟩
      have hPW := pow_wrap h (by omega)
      have hN : 1 ≤ 2 ^ h := Nat.one_le_two_pow
      have hle : h ≤ 8 := by omega
      have hN2 : 2 ^ h ≤ 256 := Nat.pow_le_pow_right (by decide) hle (n := 2)
      simp only [withinB, decide_eq_true_eq, Int.toNat_natCast] at hbad
      have hh8 : (h : Int) ≤ 8 := by omega
      by_cases h3 : idx < 0
      · have hd3 : decide (idx < 0) = true := by simpa using h3
        clear hbad
        go_wp2
        go_region
        all_goals (go_wp2; go_ret; exact ⟨rfl, b1.drew⟩)
      · have hd3 : decide (idx < 0) = false := by simpa using h3
        by_cases h4 : ((2 ^ h : Nat) : Int) ≤ idx
        · clear hbad
          generalize 2 ^ h = N at *
          have hd4 : decide ((N : Int) ≤ idx) = true := by simpa using h4
          have hd4b : decide (wrap64 ((2 : Int) ^ h) ≤ idx) = true := by rw [hPW]; exact hd4
          go_wp2
          go_region
          all_goals (go_wp2; go_ret; exact ⟨rfl, b1.drew⟩)
        · have h5 : ps.length ≠ h := by
            intro e
            exact hbad ⟨by omega, by omega, by omega, e⟩
          generalize 2 ^ h = N at *
          have hd4 : decide ((N : Int) ≤ idx) = false := by simpa using h4
          have hd4b : decide (wrap64 ((2 : Int) ^ h) ≤ idx) = false := by rw [hPW]; exact hd4
          have hd5 : decide ((ps.length : Int) = (h : Int)) = false := by
            rw [decide_eq_false_iff_not]
            omega
          clear hbad
          go_wp2
          go_region
          all_goals (go_wp2; go_ret; exact ⟨rfl, b1.drew⟩)

end Go.Proofs.YtpnginemjcphcabDoor
