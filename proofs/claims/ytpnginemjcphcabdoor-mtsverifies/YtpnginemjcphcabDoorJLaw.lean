/- What this text proves: the program's Verify and the document's answer alike, over this program. What this text proves: the walks of the statements MtsNew and MtsNobody over this program: what is wrong with any keys; keys that no call made. What this text proves: the walk of the statement MtsVerifies over this program. -/
import Derived.Test.YtpnginemjcphcabDoorJRMVerL
import Derived.Test.YtpnginemjcphcabDoorJMVerify
import Derived.Test.YtpnginemjcphcabDoorJMKeysT
import Derived.Test.YtpnginemjcphcabDoorJRWots
namespace Go.Proofs.YtpnginemjcphcabDoor
open Go.RowKit

theorem rver_false (size height idx : Int) (pv dv ca pa : Value) (ls ps : List (List UInt8)) (D pub : List UInt8) (w : World) (hpv : HB w pv pub) (hdv : HB w dv D) (hc : PA w ca ls) (hp : PA w pa ps)
    (hbad : (mcanB size height && withinB idx height.toNat && (shpB size.toNat (4 * size.toNat + 5) ls && shpB size.toNat height.toNat ps) && decide (D.length = size.toNat)) = false) :
    Calls Tryd.prog 20 #[.int .i64 size, pv, .int .i64 height, dv, .agg #[.int .i64 idx, ca, pa]] w fun e w' => e = .returned (.bool false) ∧ Below w.heap.size w w' := by
  by_cases h1 : 0 ≤ height ∧ height ≤ 8 ∧ withinB idx height.toNat = true ∧ ps.length = height.toNat
  · obtain ⟨h0, h8, hwi, hL⟩ := h1
    obtain ⟨h, rfl⟩ : ∃ h : Nat, height = (h : Int) := ⟨height.toNat, by omega⟩
    rw [Int.toNat_natCast] at hwi hL hbad
    have hw2 := hwi
    simp only [withinB, decide_eq_true_eq] at hw2
    obtain ⟨i, rfl⟩ : ∃ i : Nat, idx = (i : Int) := ⟨idx.toNat, by omega⟩
    have hh : h ≤ 8 := by omega
    have hi : i < 2 ^ h := Int.ofNat_lt.1 hw2.2
    have hN : 2 ^ h ≤ 256 := Nat.pow_le_pow_right (by decide) hh (n := 2)
    by_cases hbd : canB size i = false ∨ (D.length : Int) ≠ size ∨ (ls.length : Int) ≠ 4 * size + 5
    · refine rver_rec size h i pv dv ca pa ls ps D pub w hpv hdv hc hp hh hi hL ?_
      intro w' hc' hd'
      exact (rrec_err size i ca dv ls D w' hc' hd' hbd).mono fun e w'' ⟨he, hw⟩ => ⟨he, by subst hw; exact Below.refl _ _⟩
    · have hcan : canB size i = true := by
        cases hb : canB size i with
        | true => rfl
        | false => exact absurd (.inl hb) hbd
      have hDl : (D.length : Int) = size := Classical.byContradiction fun h => hbd (.inr (.inl h))
      have hll : (ls.length : Int) = 4 * size + 5 := Classical.byContradiction fun h => hbd (.inr (.inr h))
      obtain ⟨n, rfl⟩ : ∃ n : Nat, size = (n : Int) := ⟨size.toNat, by omega⟩
      have hD : D.length = n := by omega
      have hl2 : ls.length = 4 * n + 5 := by omega
      have hR := fun w' hc' hd' => rrec_in n i ca dv ls D w' hc' hd' hD hcan hl2
      cases hwb : wholeB n ls with
      | false =>
        refine rver_rec n h i pv dv ca pa ls ps D pub w hpv hdv hc hp hh hi hL ?_
        intro w' hc' hd'
        exact (hR w' hc' hd').mono fun e w'' ⟨⟨_, he⟩, hb⟩ => ⟨he hwb, hb⟩
      | true =>
        have hI := rver_in n h i pv dv ca pa ls ps D pub (recW n ls i D) w hpv hdv hc hp hh hi hL fun w' hc' hd' => (hR w' hc' hd').mono fun e w'' ⟨⟨he, _⟩, hb⟩ => ⟨he hwb, hb⟩
        have hs : shpB n h ps = false := by
          have hm : mcanB n h = true := by
            simp only [canB, decide_eq_true_eq] at hcan
            simp only [mcanB, decide_eq_true_eq]
            omega
          have hw3 : shpB n (4 * n + 5) ls = true := hwb
          rw [hm, hwi, Int.toNat_natCast, hw3] at hbad
          simpa [hD] using hbad
        rw [hs, Bool.false_and] at hI
        exact hI
  · exact rver_err1 size height idx pv dv ca pa ls ps D pub w hpv hdv hc hp h1

/-- Both Verify's answer the same. -/
theorem ver_two (size height idx : Int) (pv dv ca pa : Value) (ls ps : List (List UInt8)) (D pub : List UInt8) :
    ∃ b : Bool, (∀ w, HB w pv pub → HB w dv D → PA w ca ls → PA w pa ps → Tabs w → Calls Tryd.prog 19 #[.int .i64 size, pv, .int .i64 height, dv, .agg #[.int .i64 idx, ca, pa]] w fun e w' => e = .returned (.bool b) ∧ Below w.heap.size w w') ∧
      (∀ w, HB w pv pub → HB w dv D → PA w ca ls → PA w pa ps → Calls Tryd.prog 20 #[.int .i64 size, pv, .int .i64 height, dv, .agg #[.int .i64 idx, ca, pa]] w fun e w' => e = .returned (.bool b) ∧ Below w.heap.size w w') := by
  cases hb : (mcanB size height && withinB idx height.toNat && (shpB size.toNat (4 * size.toNat + 5) ls && shpB size.toNat height.toNat ps) && decide (D.length = size.toNat)) with
  | false => exact ⟨false, fun w a b c d _ => ver_false size height idx pv dv ca pa ls ps D pub w a b c d hb, fun w a b c d => rver_false size height idx pv dv ca pa ls ps D pub w a b c d hb⟩
  | true =>
    simp only [Bool.and_eq_true, decide_eq_true_eq] at hb
    obtain ⟨⟨⟨hm, hwi⟩, hs1, hs2⟩, hD⟩ := hb
    have hcan : 1 ≤ size ∧ size ≤ 32 ∧ 0 ≤ height ∧ height ≤ 8 := by simpa [mcanB] using hm
    obtain ⟨n, rfl⟩ : ∃ n : Nat, size = (n : Int) := ⟨size.toNat, by omega⟩
    obtain ⟨h, rfl⟩ : ∃ h : Nat, height = (h : Int) := ⟨height.toNat, by omega⟩
    simp only [Int.toNat_natCast] at hwi hs1 hs2 hD
    simp only [withinB, decide_eq_true_eq] at hwi
    obtain ⟨i, rfl⟩ : ∃ i : Nat, idx = (i : Int) := ⟨idx.toNat, by omega⟩
    have hh : h ≤ 8 := by omega
    have hi : i < 2 ^ h := Int.ofNat_lt.1 hwi.2
    have hN : 2 ^ h ≤ 256 := Nat.pow_le_pow_right (by decide) hh (n := 2)
    have hL : ps.length = h := by
      simp only [shpB, Bool.and_eq_true, decide_eq_true_eq] at hs2
      exact hs2.1
    have hl2 : ls.length = 4 * n + 5 := by
      have := hs1
      simp only [shpB, Bool.and_eq_true, decide_eq_true_eq] at this
      exact this.1
    have hcb : canB n i = true := by
      simp only [canB, decide_eq_true_eq]
      omega
    refine ⟨upN n i ps (recW n ls i D) h == pub, fun w a b c d t => ver_in n h i pv dv ca pa ls ps D pub w a b c d t (by omega) (by omega) hh hi hs1 hs2 hD, ?_⟩
    intro w a b c d
    have hI := rver_in n h i pv dv ca pa ls ps D pub (recW n ls i D) w a b c d hh hi hL fun w' hc' hd' => (rrec_in n i ca dv ls D w' hc' hd' hD hcb hl2).mono fun e w'' ⟨⟨he, _⟩, hb⟩ => ⟨he (shp_whole hs1), hb⟩
    rw [hs2, Bool.true_and] at hI
    exact hI

end Go.Proofs.YtpnginemjcphcabDoor

namespace Go.Proofs.YtpnginemjcphcabDoor
open Go.RowKit

theorem Tabs.size {w : World} (h : Tabs w) : 1 < w.heap.size := by
  obtain ⟨x, hx⟩ : ∃ x, kTab[0]? = some x := ⟨_, rfl⟩
  exact cell_lt (h.2 0 x hx)

set_option maxRecDepth 100000 in
set_option maxHeartbeats 1000000 in
theorem rnew_err (size height : Int) (v : Value) (seed : List UInt8) (w : World) (hv : HB w v seed) (hbad : ¬ (0 ≤ height ∧ height ≤ 8)) :
    Calls Tryd.prog 18 #[.int .i64 size, v, .int .i64 height] w fun e w' => e = .returned (.tuple #[.pointer none, .int .i64 1]) ∧ w' = w := by
  have hm := hv.len_le
  unfold maxLen at hm
  obtain ⟨p, c, rfl⟩ := hv.shape
  have hC := fun w' => rcan_any size 0 p seed.length c w' (by omega)
  cases hb : rcanB size 0 seed.length with
  | false =>
    rw [hb] at hC
    clear hbad
    go_enter Tryd.func18, Tryd.ntmps18
    go_wp2_with fail
    refine (hC _).mono ?_
    rintro e w1 ⟨rfl, hw1⟩
    subst hw1
    go_wp2
    go_ret2
    exact ⟨rfl, rfl⟩
  | true =>
    rw [hb] at hC
    by_cases h0 : height < 0
    · clear hbad
      go_enter Tryd.func18, Tryd.ntmps18
      go_wp2_with fail
      refine (hC _).mono ?_
      rintro e w1 ⟨rfl, hw1⟩
      subst hw1
      go_wp2
      go_ret2
      exact ⟨rfl, rfl⟩
    · have h8 : 8 < height := by omega
      have hd : decide (height < 0) = false := by simpa using h0
      clear hbad
      go_enter Tryd.func18, Tryd.ntmps18
      go_wp2_with fail
      refine (hC _).mono ?_
      rintro e w1 ⟨rfl, hw1⟩
      subst hw1
      go_wp2
      go_ret2
      exact ⟨rfl, rfl⟩

set_option maxRecDepth 100000 in
set_option maxHeartbeats 2000000 in
theorem newWalk (size height : Int) (v : Value) (seed : List UInt8) (w : World) (hv : HB w v seed) (hT : Tabs w) :
    Calls Tryd.prog 4 #[.int .i64 size, v, .int .i64 height] w fun e w' => e = .returned (.bool true) ∧ Below w.heap.size w w' := by
  obtain ⟨p, c, rfl⟩ := hv.shape
  obtain ⟨U, hU, hU2⟩ := u64_nat size
  have hA := fun w' hT' hs' => mtsAwake_any w' hT' hs'
  have hN2 : Calls Tryd.prog 17 #[.int .i64 (33 + (U : Int) % 9), .slice none 0 0, .int .i64 1] w fun e w' => e = .returned (.tuple #[.pointer none, .int .i64 1]) ∧ w' = w := new_err _ 1 _ [] w (HB.nil w) (.inl (by simp [mcanB]; omega))
  have hsz := hT.size
  go_enter Tryd.func4, Tryd.ntmps4
  by_cases h0 : 0 ≤ height ∧ height ≤ 8
  case' pos =>
    obtain ⟨h1, h2⟩ := h0
    have hN1 := new_err size (-1 - height) (.slice p seed.length c) seed w hv (.inl (by simp [mcanB]; omega))
    have hR := rnew_err size (-1 - height) (.slice p seed.length c) seed w hv (by omega)
  case' neg =>
    have hN1 := new_err size height (.slice p seed.length c) seed w hv (.inl (by simp [mcanB]; omega))
    have hR := rnew_err size height (.slice p seed.length c) seed w hv h0
    rcases (show height < 0 ∨ 8 < height by omega) with h1 | h1
    case' inr => have h2 : 0 ≤ height := by omega
  all_goals
    try clear h0
    go_wp2_with fail
    refine hN1.mono ?_
    rintro e w1 ⟨rfl, hw1⟩
    have hw2 := hw1.symm
    clear hw1
    subst hw2
    go_wp2_with fail
    refine hN2.mono ?_
    rintro e w1 ⟨rfl, hw1⟩
    have hw2 := hw1.symm
    clear hw1
    subst hw2
    go_wp2_with fail
    refine hR.mono ?_
    rintro e w1 ⟨rfl, hw1⟩
    have hw2 := hw1.symm
    clear hw1
    subst hw2
    go_wp2_with fail
    refine (hA _ hT hsz).mono ?_
    rintro e w2 ⟨rfl, hb2⟩
    go_wp2
    go_ret
    exact ⟨rfl, hb2⟩

end Go.Proofs.YtpnginemjcphcabDoor

namespace Go.Proofs.YtpnginemjcphcabDoor
open Go.RowKit

set_option maxRecDepth 100000 in
set_option maxHeartbeats 4000000 in
theorem verWalk (size height idx : Int) (pv dv ca pa : Value) (ls ps : List (List UInt8)) (D pub : List UInt8) (w : World) (hpv : HB w pv pub) (hdv : HB w dv D) (hc : PA w ca ls) (hp : PA w pa ps) (hT : Tabs w) :
    Calls Tryd.prog 5 #[.int .i64 size, pv, .int .i64 height, dv, .agg #[.int .i64 idx, ca, pa]] w fun e w' => e = .returned (.bool true) ∧ Below w.heap.size w w' := by
  obtain ⟨b, hA, hB⟩ := ver_two size height idx pv dv ca pa ls ps D pub
  obtain ⟨p, c, rfl⟩ := hc.shape
  obtain ⟨q, d, rfl⟩ := hp.shape
  obtain ⟨p1, c1, rfl⟩ := hpv.shape
  obtain ⟨p2, c2, rfl⟩ := hdv.shape
  have hM := fun w' hT' => mtsAwake_any w' hT' (Tabs.size hT')
  generalize ls.length = a1 at *
  generalize ps.length = a2 at *
  go_enter Tryd.func5, Tryd.ntmps5
  go_wp2
  have bW := (Below.refl _ w).alloc (Nat.le_refl _) (.cells #[.int .i64 idx, .slice p a1 c, .slice q a2 d] 30)
  have g1 : (w.alloc (.cells #[.int .i64 idx, .slice p a1 c, .slice q a2 d] 30)).heap[w.heap.size]? = some (.cells #[.int .i64 idx, .slice p a1 c, .slice q a2 d] 30 (0, 0)) := heap_alloc_new w _
  generalize w.alloc (.cells #[.int .i64 idx, .slice p a1 c, .slice q a2 d] 30) = W at *
  have hpv := hpv.later bW
  have hdv := hdv.later bW
  have hc := hc.later bW
  have hp := hp.later bW
  have hT := hT.later bW
  have e0 := cell_of_row _ w.heap.size 0 _ _ _ g1
  have e1 := cell_of_row _ w.heap.size 1 _ _ _ g1
  have e2 := cell_of_row _ w.heap.size 2 _ _ _ g1
  simp at e0 e1 e2
  generalize hg : w.heap.size = g at *
  have HG : Hid (w.heap.size = g) := hg
  clear hg g1
  go_region_held3 (fun w' => w'.cell? ⟨g, 0, none⟩ = some (.int .i64 idx) ∧ w'.cell? ⟨g, 1, none⟩ = some (.slice p a1 c) ∧ w'.cell? ⟨g, 2, none⟩ = some (.slice q a2 d)) (first | exact ⟨e0, e1, e2⟩ | exact ⟨f0, f1, f2⟩ | exact ⟨i0, i1, i2⟩ | exact ⟨j0, j1, j2⟩) (first
    | (go_at_call 19; refine (hA _ (hpv.later (by repeat (first | exact Below.refl _ _ | refine Below.drew ?_))) (hdv.later (by repeat (first | exact Below.refl _ _ | refine Below.drew ?_))) (hc.later (by repeat (first | exact Below.refl _ _ | refine Below.drew ?_))) (hp.later (by repeat (first | exact Below.refl _ _ | refine Below.drew ?_))) (hT.later (by repeat (first | exact Below.refl _ _ | refine Below.drew ?_)))).mono ?_; rintro e w1 ⟨rfl, hb1⟩; have hb01 : Below W.heap.size W w1 := Below.trans (by repeat (first | exact Below.refl _ _ | refine Below.drew ?_)) hb1; have f0 := cell_later hb01 e0; have f1 := cell_later hb01 e1; have f2 := cell_later hb01 e2)
    | (go_at_call 20; refine (hB _ (hpv.later hb01) (hdv.later hb01) (hc.later hb01) (hp.later hb01)).mono ?_; rintro e w2 ⟨rfl, hb2⟩; have hb02 : Below W.heap.size W w2 := hb01.trans (hb2.mono hb01.size); have i0 := cell_later hb02 e0; have i1 := cell_later hb02 e1; have i2 := cell_later hb02 e2)
    | (go_at_call 10; refine (hM _ (hT.later hb02)).mono ?_; rintro e w3 ⟨rfl, hb3⟩; have hb03 : Below W.heap.size W w3 := hb02.trans (hb3.mono hb02.size); have j0 := cell_later hb03 e0; have j1 := cell_later hb03 e1; have j2 := cell_later hb03 e2))
  all_goals
    go_wp2
    go_ret
    rw [HG.out]
    exact ⟨by simp, bW.trans (hb03.mono (by rw [← HG.out]; exact bW.size))⟩

end Go.Proofs.YtpnginemjcphcabDoor
